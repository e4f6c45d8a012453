import Derived.Test.YtboabgjgcnkelabDoorW30
import Derived.Test.YtboabgjgcnkelabDoorW32
import Derived.Test.YtboabgjgcnkelabDoorFM3
import Derived.Lib.ParseIntB
import Derived.Lib.Bytealg
import Derived.Lib.ItoaMem
import Derived.Test.YtboabgjgcnkelabDoorFW7
import Derived.Lib.AtoiErrMem
import Derived.Deep.DeepCutAuto
namespace Go.Proofs.YtboabgjgcnkelabDoor
open Go.RowKit Go.Shelf

/-- One digit times all: the carry ahead of place k, and the digits up to it. -/
def mcr (x : Int) (b : List Int) : Nat → Int
  | 0 => 0
  | k + 1 => (mcr x b k + x * dat b k) / 65536
def mrw (x : Int) (b : List Int) : Nat → List Int
  | 0 => []
  | k + 1 => mrw x b k ++ [(mcr x b k + x * dat b k) % 65536]
theorem mrw_len (x : Int) (b : List Int) : ∀ k, (mrw x b k).length = k
  | 0 => rfl
  | k + 1 => by simp [mrw, mrw_len x b k]
theorem mrw_dg (x : Int) (b : List Int) : ∀ k, Dg (mrw x b k)
  | 0 => fun _ h => by simp [mrw] at h
  | k + 1 => (mrw_dg x b k).snoc (by omega)
theorem dig_mul {x y : Int} (hx : 0 ≤ x ∧ x < 65536) (hy : 0 ≤ y ∧ y < 65536) : 0 ≤ x * y ∧ x * y ≤ 4294836225 := by
  constructor
  · exact Int.mul_nonneg hx.1 hy.1
  · have := Int.mul_le_mul (show x ≤ 65535 by omega) (show y ≤ 65535 by omega) hy.1 (by decide)
    omega
theorem mcr_bd {x : Int} {b : List Int} (hx : 0 ≤ x ∧ x < 65536) (hb : Dg b) : ∀ k, 0 ≤ mcr x b k ∧ mcr x b k < 65536
  | 0 => by simp [mcr]
  | k + 1 => by
    have := mcr_bd hx hb k
    have := dig_mul hx (dat_bd hb k)
    simp only [mcr]; omega
theorem mrw_val (x : Int) (b : List Int) : ∀ k, val (mrw x b k) + 65536 ^ k * mcr x b k = x * val (b.take k)
  | 0 => by simp [mrw, mcr, val]
  | k + 1 => by
    have ih := mrw_val x b k
    rw [val_take]
    simp only [mrw, mcr, val_app, mrw_len, val, Int.pow_succ]
    generalize hs : mcr x b k + x * dat b k = s
    generalize (65536 : Int) ^ k = p at *
    have e : s % 65536 + 65536 * (s / 65536) = s := Int.emod_add_mul_ediv s 65536
    have e2 : p * (s % 65536) + p * 65536 * (s / 65536) = p * s := by
      rw [Int.mul_assoc, ← Int.mul_add, e]
    have e3 : p * s = p * mcr x b k + p * (x * dat b k) := by rw [← hs, Int.mul_add]
    have e4 : s % 65536 + 65536 * 0 = s % 65536 := by omega
    have e5 : x * (val (b.take k) + p * dat b k) = x * val (b.take k) + p * (x * dat b k) := by
      rw [Int.mul_add, ← Int.mul_assoc, ← Int.mul_assoc, Int.mul_comm x p]
    rw [e4, e5]; omega
theorem noughts_val : ∀ k, val (noughts k) = 0
  | 0 => rfl
  | k + 1 => by rw [noughts_snoc, val_app, noughts_val k]; simp [val]
theorem noughts_len (k : Nat) : (noughts k).length = k := by simp [noughts]
theorem noughts_dg (k : Nat) : Dg (noughts k) := by
  intro d h
  simp [noughts] at h
  omega
/-- A whole row: noughts, digits, the last carry. -/
def wrow (x : Int) (b : List Int) (i : Nat) : List Int := noughts i ++ mrw x b b.length ++ [mcr x b b.length]
theorem wrow_len (x : Int) (b : List Int) (i : Nat) : (wrow x b i).length = i + b.length + 1 := by
  simp [wrow, noughts_len, mrw_len]; omega
theorem wrow_dg {x : Int} {b : List Int} (hx : 0 ≤ x ∧ x < 65536) (hb : Dg b) (i : Nat) : Dg (wrow x b i) := by
  refine Dg.snoc ?_ (mcr_bd hx hb _)
  intro d h
  rcases List.mem_append.1 h with h | h
  · exact noughts_dg i d h
  · exact mrw_dg x b _ d h
theorem wrow_val (x : Int) (b : List Int) (i : Nat) : val (wrow x b i) = 65536 ^ i * (x * val b) := by
  have h := mrw_val x b b.length
  rw [List.take_length] at h
  unfold wrow
  rw [List.append_assoc, val_app, noughts_val, noughts_len, val_app, mrw_len]
  have e : val [mcr x b b.length] = mcr x b b.length := by simp [val]
  rw [e, h]; omega
theorem mul_next {a b : List Int} {i : Nat} {s : Int} (hs : s = val (a.take i) * val b) : s + 65536 ^ i * (dat a i * val b) = val (a.take (i + 1)) * val b := by
  rw [val_take, Int.add_mul, hs, Int.mul_assoc]
end Go.Proofs.YtboabgjgcnkelabDoor
namespace Go.Proofs.YtboabgjgcnkelabDoor
open Go.RowKit Go.Shelf
attribute [local go_sem ↓] Go.wp_at_zero Go.wp_at_succ

/-- The three blocks of Mul. -/
def Mb (w W : World) (s t : Bool) (ao bo : Option Addr) (la lb ca cb : Nat) : Prop :=
  W.cell? ⟨w.heap.size, 0, none⟩ = some (.bool s) ∧ W.cell? ⟨w.heap.size, 1, none⟩ = some (.slice ao la ca) ∧ W.cell? ⟨w.heap.size + 1, 0, none⟩ = some (.bool t) ∧ W.cell? ⟨w.heap.size + 1, 1, none⟩ = some (.slice bo lb cb) ∧ W.cell? ⟨w.heap.size + 2, 0, none⟩ = some (.bool false) ∧ W.cell? ⟨w.heap.size + 2, 1, none⟩ = some (.slice none 0 0) ∧ W.frozen? ⟨w.heap.size + 2, 0, none⟩ = false ∧ W.frozen? ⟨w.heap.size + 2, 1, none⟩ = false
theorem Mb.keep {w W W' : World} {s t : Bool} {ao bo : Option Addr} {la lb ca cb : Nat} (h : Mb w W s t ao bo la lb ca cb) (hb : Below W.heap.size W W') : Mb w W' s t ao bo la lb ca cb := by
  obtain ⟨h0, h1, h2, h3, h4, h5, h6, h7⟩ := h
  have lt := lt_of_cell h4
  exact ⟨keepc hb h0, keepc hb h1, keepc hb h2, keepc hb h3, keepc hb h4, keepc hb h5, keepf hb lt h6, keepf hb lt h7⟩
theorem mb_new (w : World) (s t : Bool) (ao bo : Option Addr) (la lb ca cb : Nat) (T1 T2 T3 : TypeId) :
    Mb w (((w.alloc (.cells #[.bool s, .slice ao la ca] T1)).alloc (.cells #[.bool t, .slice bo lb cb] T2)).alloc (.cells #[.bool false, .slice none 0 0] T3)) s t ao bo la lb ca cb := by
  refine ⟨?_, ?_, ?_, ?_, ?_, ?_, ?_, ?_⟩ <;> simp [go_sem]
set_option maxHeartbeats 6400000 in
set_option maxRecDepth 100000 in
theorem mul_digits (a b : List Int) (s t : Bool) (va vb : Value) (N : Int) (w : World) (ra : Rd w va a) (rb : Rd w vb b) (ha : Dg a) (hb : Dg b) (la : a.length ≤ 16) (lb : b.length ≤ 16)
    (hN : val a * val b = (N.natAbs : Int)) (hs : 0 < N → (!s == t) = false) (hs' : N < 0 → (!s == t) = true) :
    Calls Tryd.prog 67 #[.agg #[.bool s, va], .agg #[.bool t, vb]] w fun e w' => ∃ z, e = .returned z ∧ Bg w' z N ∧ Below w.heap.size w w' := by
  obtain ⟨i0, hi, hz0, hz1, hz2⟩ := info_parts info_int
  obtain ⟨ao, ca, rfl, rda⟩ := ra.parts
  obtain ⟨bo, cb, rfl, rdb⟩ := rb.parts
  have HA := hid1 ha
  have HB := hid1 hb
  have RA := hid1 rda
  have RB := hid1 rdb
  have HN := hid1 hN
  have HS := hid1 (And.intro hs hs')
  clear ha hb rda rdb ra rb hN hs hs'
  go_enter Tryd.func67, Tryd.ntmps67
  go_wp2_with fail
  go_loopw [5, 6] (fun dv iv wr => ∃ (i : Nat) (ds : List Int), i ≤ a.length ∧ iv = .int .i64 i ∧ Rd wr dv ds ∧ Dg ds ∧ val ds = val (a.take i) * val b ∧ ds.length ≤ i + b.length + 1 ∧ Below w.heap.size w wr ∧ Mb w wr s t ao bo a.length b.length ca cb) (fun _ iv _ => a.length - (intOf iv).toNat)
  case atStart => exact ⟨0, [], Nat.zero_le _, rfl, .inl ⟨rfl, rfl⟩, fun _ h => by simp at h, by simp [val], by simp, by repeat (first | exact Below.refl _ _ | refine bl_alloc ?_ _ | refine Below.drew ?_ | refine bl_drewN ?_ _ | refine bl_set ?_ (by omega) _ | refine bl_step ?_ (by assumption)), mb_new _ _ _ _ _ _ _ _ _ _ _ _⟩
  case round =>
    rename World => V
    obtain ⟨i, ds, hi1, rfl, rd, dd, hv, hl, hnx, mb⟩ := hrel
    have hsize := hnx.size
    have RD := hid1 rd
    have DD := hid1 dd
    have HV := hid1 hv
    have MB := hid1 mb
    obtain ⟨do_, dc, rfl, _⟩ := rd.parts
    clear rd dd hv
    have ii0 : (0 : Int) ≤ (i : Int) := by omega
    obtain ⟨m0, m1, m2, m3, m4, m5, m6, m7⟩ := mb
    by_cases hlt : i < a.length
    · have ii : (i : Int) < (a.length : Int) := by omega
      go_wp2_with fail
      go_loopw [7, 8] (fun rv kv wq => ∃ (j : Nat), j ≤ i ∧ kv = .int .i64 j ∧ wq.ownsRow V.heap.size 3 1 rv j (ivs (noughts j)) ∧ Below V.heap.size V wq) (fun _ kv _ => i - (intOf kv).toNat)
      case atStart => exact ⟨0, Nat.zero_le _, rfl, World.ownsRow_nil _ _ _ _, Below.refl _ _⟩
      case round =>
        rename World => wq
        obtain ⟨j, hj, rfl, hown, hq⟩ := hrel
        have hsq := hq.size
        obtain ⟨ro, rc, rfl⟩ := own_form hown
        clear m0 m1 m2 m3 m4 m5 m6 m7
        by_cases hlj : j < i
        · go_wp2_with (first | (at_builtin; refine wpList_append_own _ rfl _ _ 59 rfl V.heap.size 3 i0 (.int .i64 0) 1 8 und_ints hi hz0 hz1 hz2 rfl (by decide) _ _ _ rfl (hown.alloc _) ⟨wq.heap.size, 0, none⟩ 1 1 [.int .i64 0] rfl rfl (cell_one_new _ _ _) (fun x hx => by simp at hx; subst hx; rfl) (by unfold maxLen; omega) (by omega) (by simp; omega) ?_; intro v' w3 hown' hgrow3 hnil3))
          exact ⟨⟨j + 1, by omega, by go_num, by rw [noughts_snoc, ivs_snoc]; exact hown', (hq.alloc hsq _).grown hgrow3 (by simp; omega) (fun q hq => (hown.lt q hq).1)⟩, by simp [intOf]; omega⟩
        · have hji : i = j := by omega
          subst hji
          go_wp2_with fail
          go_loopw [7, 9, 10] (fun rv cv kv wz => ∃ (k : Nat), k ≤ b.length ∧ cv = .int .i64 (mcr (dat a i) b k) ∧ kv = .int .i64 k ∧ wz.ownsRow V.heap.size 3 1 rv (i + k) (ivs (noughts i ++ mrw (dat a i) b k)) ∧ Below V.heap.size V wz) (fun _ _ kv _ => b.length - (intOf kv).toNat)
          case atStart => exact ⟨0, Nat.zero_le _, rfl, rfl, by simpa [mrw] using hown, hq⟩
          case round =>
            clear hown hq hsq
            rename World => wz
            obtain ⟨k, hk, rfl, rfl, hown, hz⟩ := hrel
            have hsz := hz.size
            obtain ⟨ro', rc', rfl⟩ := own_form hown
            obtain ⟨m0, m1, m2, m3, m4, m5, m6, m7⟩ := MB.out.keep hz
            have kk0 : (0 : Int) ≤ (k : Int) := by omega
            obtain ⟨d1, d2⟩ := dat_bd HA.out i
            obtain ⟨o1, o2⟩ := mcr_bd ⟨d1, d2⟩ HB.out k
            by_cases hlk : k < b.length
            · have kk : (k : Int) < (b.length : Int) := by omega
              obtain ⟨ga, rfl, xa⟩ := RA.out i hlt
              obtain ⟨gb, rfl, xb⟩ := RB.out k hlk
              replace xa := keepc (bl_step hnx hz) xa
              replace xb := keepc (bl_step hnx hz) xb
              obtain ⟨d3, d4⟩ := dat_bd HB.out k
              have e1 : mrw (dat a i) b (k + 1) = mrw (dat a i) b k ++ [(mcr (dat a i) b k + dat a i * dat b k) % 65536] := rfl
              have e2 : mcr (dat a i) b (k + 1) = (mcr (dat a i) b k + dat a i * dat b k) / 65536 := rfl
              have H3 := hid1 e2
              have H4 := hid1 e1
              clear e1 e2
              obtain ⟨p1, p2⟩ := dig_mul ⟨d1, d2⟩ ⟨d3, d4⟩
              generalize mcr (dat a i) b k = o at *
              generalize dat b k = y at *
              generalize mrw (dat a i) b k = rw_ at *
              generalize dat a i = x at *
              have f1 : wrap64 (x * y) = x * y := by unfold wrap64; omega
              have f2 : wrap64 (o + x * y) = o + x * y := by unfold wrap64; omega
              have f3 : 0 ≤ o + x * y := by omega
              have f4 : o + x * y ≤ 9223372036854775807 := by omega
              go_wp2_with fail
              go_quiet (fail)
              go_wp2_with (first | (at_builtin; refine wpList_append_own _ rfl _ _ 59 rfl V.heap.size 3 i0 (.int .i64 0) 1 8 und_ints hi hz0 hz1 hz2 rfl (by decide) _ _ _ rfl ((own_below hown (bl_drewN (Below.refl _ _) _)).alloc _) ⟨wz.heap.size, 0, none⟩ 1 1 [.int .i64 ((o + x * y) % 65536)] rfl rfl (cell_one_new _ _ _) (fun x hx => by simp at hx; subst hx; rfl) (by unfold maxLen; omega) (by omega) (by simp; omega) ?_; intro v' w3 hown' hgrow3 hnil3))
              exact ⟨⟨k + 1, by omega, by rw [H3.out], by go_num, by rw [H4.out, ← List.append_assoc, ivs_snoc]; exact hown', ((bl_drewN hz _).alloc hsz _).grown hgrow3 (by simp; omega) (fun q hq => (hown.lt q hq).1)⟩, by simp [intOf]; omega⟩
            · have hkb : b.length = k := by omega
              subst hkb
              have ew : noughts i ++ mrw (dat a i) b b.length ++ [mcr (dat a i) b b.length] = wrow (dat a i) b i := rfl
              have EW := hid1 ew
              clear ew
              have DW := hid1 (wrow_dg ⟨d1, d2⟩ HB.out i)
              have VW := hid1 (wrow_val (dat a i) b i)
              have LW := wrow_len (dat a i) b i
              generalize mcr (dat a i) b b.length = o at *
              generalize mrw (dat a i) b b.length = rw_ at *
              generalize wrow (dat a i) b i = W_ at *
              go_wp2_with (first | (at_builtin; refine wpList_append_own _ rfl _ _ 59 rfl V.heap.size 3 i0 (.int .i64 0) 1 8 und_ints hi hz0 hz1 hz2 rfl (by decide) _ _ _ rfl (hown.alloc _) ⟨wz.heap.size, 0, none⟩ 1 1 [.int .i64 o] rfl rfl (cell_one_new _ _ _) (fun x hx => by simp at hx; subst hx; rfl) (by unfold maxLen; omega) (by omega) (by simp; omega) ?_; intro v' w3 hown' hgrow3 hnil3))
              have hB3 : Below V.heap.size V w3 := (hz.alloc hsz _).grown hgrow3 (by simp; omega) (fun q hq => (hown.lt q hq).1)
              have RW : Rd w3 v' W_ := Rd.own (base := V.heap.size) (n := i + b.length + 1) (by rw [← EW.out, ivs_snoc]; exact hown')
              have HB3 := hid1 hB3
              clear hgrow3 hnil3 hown'
              refine (plus_digits ds W_ _ _ _ (RD.out.below HB3.out) RW DD.out DW.out (by omega) (by omega)).mono ?_
              rintro e w4 ⟨v4, rfl, ds4, own4, dg4, val4, len4, hb4⟩
              have G4 := hid1 (And.intro own4 (And.intro dg4 (And.intro val4 (And.intro len4 hb4))))
              obtain ⟨o4, c4, rfl⟩ := own_form own4
              clear own4 dg4 val4 len4 hb4 RW
              go_wp2_with fail
              obtain ⟨own4, dg4, val4, len4, hb4⟩ := G4.out
              have B4 := bl_step hB3 hb4
              exact ⟨⟨i + 1, ds4, by omega, by go_num, Rd.own own4, dg4, by rw [val4, VW.out]; exact mul_next HV.out, by unfold top at len4; omega, bl_step hnx B4, MB.out.keep B4⟩, by simp [intOf]; omega⟩
    · have hia : a.length = i := by omega
      subst hia
      have hv : val ds = (N.natAbs : Int) := by
        have := HV.out
        rw [List.take_length] at this
        rw [this]; exact HN.out
      have HV2 := hid1 hv
      clear hv
      go_wp2_with fail
      refine (trim_num N _ _ ds _ RD.out DD.out HV2.out HS.out.1 HS.out.2).mono ?_
      rintro e w5 ⟨y5, s5, ao5, l5, cap5, rfl, rfl, hy5, hb5⟩
      have HY5 := hid1 hy5
      clear hy5 m0 m1 m2 m3 m4 m5 m6 m7
      obtain ⟨-, -, -, -, m4, m5, m6, m7⟩ := MB.out.keep hb5
      have hBB := hid1 (bl_step hnx hb5)
      clear hb5
      go_wp2_with fail
      simp [bodyPost, results, Tryd.results67, go_sem, m4, m5]
      exact big_ret HY5.out hBB.out (by omega) ⟨_, m4⟩ _ _
theorem rmul_any (m n : Int) (x y : Value) (w : World) (hx : Bg w x m) (hy : Bg w y n) (hm : (m.natAbs : Int) < 65536 ^ 16) (hn : (n.natAbs : Int) < 65536 ^ 16) :
    Calls Tryd.prog 67 #[x, y] w fun e w' => ∃ z, e = .returned z ∧ Bg w' z (m * n) ∧ Below w.heap.size w w' := by
  obtain ⟨va, a, rfl, ra, da, ta, ea⟩ := hx
  obtain ⟨vb, b, rfl, rb, db, tb, eb⟩ := hy
  have la : a.length ≤ 16 := len_le da ta (by rw [ea]; exact hm)
  have lb : b.length ≤ 16 := len_le db tb (by rw [eb]; exact hn)
  refine mul_digits a b _ _ va vb (m * n) w ra rb da db la lb (by rw [ea, eb, Int.natAbs_mul]; simp) (fun h => ?_) (fun h => ?_)
  · rcases Int.lt_trichotomy m 0 with h1 | h1 | h1
    · have h2 : n < 0 := by
        rcases Int.lt_trichotomy n 0 with h2 | h2 | h2
        · exact h2
        · subst h2; simp at h
        · have := Int.mul_neg_of_neg_of_pos h1 h2; omega
      simp [h1, h2]
    · subst h1; simp at h
    · have h2 : 0 < n := by
        rcases Int.lt_trichotomy n 0 with h2 | h2 | h2
        · have := Int.mul_neg_of_pos_of_neg h1 h2; omega
        · subst h2; simp at h
        · exact h2
      have h3 : ¬ m < 0 := by omega
      have h4 : ¬ n < 0 := by omega
      simp [h3, h4]
  · rcases Int.lt_trichotomy m 0 with h1 | h1 | h1
    · have h2 : 0 < n := by
        rcases Int.lt_trichotomy n 0 with h2 | h2 | h2
        · have := Int.mul_pos_of_neg_of_neg h1 h2; omega
        · subst h2; simp at h
        · exact h2
      have h4 : ¬ n < 0 := by omega
      simp [h1, h4]
    · subst h1; simp at h
    · have h2 : n < 0 := by
        rcases Int.lt_trichotomy n 0 with h2 | h2 | h2
        · exact h2
        · subst h2; simp at h
        · have := Int.mul_pos h1 h2; omega
      have h3 : ¬ m < 0 := by omega
      simp [h3, h2]
end Go.Proofs.YtboabgjgcnkelabDoor
namespace Go.Proofs.YtboabgjgcnkelabDoor
open Go.RowKit Go.Shelf

/-- What of a number has been gone through: all above, and s bits of the digit at hand. -/
def pre (H D : Int) (s : Nat) : Int := H * 2 ^ s + D / 2 ^ (16 - s)
theorem pre_zero {H D : Int} (h : 0 ≤ D ∧ D < 65536) : pre H D 0 = H := by
  unfold pre
  have e : D / 2 ^ (16 - 0) = 0 := Int.ediv_eq_zero_of_lt h.1 (by simpa using h.2)
  rw [e]; simp
theorem pre_end (H D : Int) : pre H D 16 = H * 65536 + D := by
  unfold pre
  simp
theorem pre_step (H D : Int) {s : Nat} (hs : s < 16) : pre H D (s + 1) = 2 * pre H D s + D / 2 ^ (15 - s) % 2 := by
  unfold pre
  rw [show 16 - (s + 1) = 15 - s by omega, show 16 - s = (15 - s) + 1 by omega, Int.pow_succ, Int.pow_succ]
  have hp : (0 : Int) ≤ 2 ^ (15 - s) := Int.le_of_lt (Int.pow_pos (by decide))
  generalize (2 : Int) ^ (15 - s) = p at *
  have e : D / (p * 2) = D / p / 2 := (Int.ediv_ediv_of_nonneg hp).symm
  rw [e, ← Int.mul_assoc]
  generalize H * 2 ^ s = h
  generalize D / p = E
  omega
theorem drop_val {a : List Int} {i : Nat} (h : i < a.length) : val (a.drop i) = val (a.drop (i + 1)) * 65536 + dat a i := by
  rw [List.drop_eq_getElem_cons h]
  simp only [val, dat, List.getElem?_eq_getElem h, Option.getD_some]
  omega
theorem pre_nonneg {H D : Int} (hH : 0 ≤ H) (hD : 0 ≤ D) (s : Nat) : 0 ≤ pre H D s := by
  unfold pre
  have a1 : (0 : Int) < 2 ^ s := Int.pow_pos (by decide)
  have a2 : (0 : Int) < 2 ^ (16 - s) := Int.pow_pos (by decide)
  have := Int.mul_nonneg hH (Int.le_of_lt a1)
  have := Int.ediv_nonneg hD (Int.le_of_lt a2)
  omega
/-- One step of a division bit by bit: where r is at least b, b is taken off. -/
theorem part_step {P q r b t : Int} (h : P = q * b + r) (h1 : 0 ≤ r) (h2 : r < b) (ht : t = 0 ∨ t = 1) :
    (b ≤ 2 * r + t → 2 * P + t = (2 * q + 1) * b + (2 * r + t - b) ∧ 0 ≤ 2 * r + t - b ∧ 2 * r + t - b < b) ∧
    (2 * r + t < b → 2 * P + t = (2 * q) * b + (2 * r + t) ∧ 0 ≤ 2 * r + t) := by
  have e1 : (2 * q + 1) * b = 2 * (q * b) + b := by rw [Int.add_mul, Int.mul_assoc]; omega
  have e2 : (2 * q) * b = 2 * (q * b) := by rw [Int.mul_assoc]
  refine ⟨fun k => ?_, fun k => ?_⟩
  · rw [e1]; omega
  · rw [e2]; omega
end Go.Proofs.YtboabgjgcnkelabDoor
namespace Go.Proofs.YtboabgjgcnkelabDoor
open Go.RowKit Go.Shelf
attribute [local go_sem ↓] Go.wp_at_zero Go.wp_at_succ

theorem cell_o {W : World} {g r o o' : Nat} {p v : Value} (h : W.cell? ⟨g, o, none⟩ = some v) (hne : g ≠ r) : (W.setCell ⟨r, o', none⟩ p).cell? ⟨g, o, none⟩ = some v := by
  simp [go_sem, *]
theorem cell_s0 {W : World} {r : Nat} {p q u v : Value} (h : W.cell? ⟨r, 0, none⟩ = some u) (h' : W.cell? ⟨r, 1, none⟩ = some v) : ((W.setCell ⟨r, 0, none⟩ p).setCell ⟨r, 1, none⟩ q).cell? ⟨r, 0, none⟩ = some p ∧ ((W.setCell ⟨r, 0, none⟩ p).setCell ⟨r, 1, none⟩ q).cell? ⟨r, 1, none⟩ = some q := by
  refine ⟨?_, ?_⟩ <;> simp [go_sem, h, h']
theorem froz_o {W : World} {g o r o' : Nat} {p : Value} (h : W.frozen? ⟨g, o, none⟩ = false) : (W.setCell ⟨r, o', none⟩ p).frozen? ⟨g, o, none⟩ = false := by
  simpa [go_sem] using h
/-- The memory of a division bit by bit. -/
structure St (w W : World) (oa : Option Addr) (a : List Int) (ca : Nat) (ob : Option Addr) (b : List Int) (cb : Nat) (sq : Bool) (oq : Option Addr) (lq cq : Nat) (sr : Bool) (oR : Option Addr) (lr cr : Nat) (Q R : Int) : Prop where
  bl : Below w.heap.size w W
  a1 : W.cell? ⟨w.heap.size, 1, none⟩ = some (.slice oa a.length ca)
  b1 : W.cell? ⟨w.heap.size + 1, 1, none⟩ = some (.slice ob b.length cb)
  u0 : W.cell? ⟨w.heap.size + 2, 0, none⟩ = some (.bool false)
  u1 : W.cell? ⟨w.heap.size + 2, 1, none⟩ = some (.slice none 0 0)
  v0 : W.cell? ⟨w.heap.size + 3, 0, none⟩ = some (.bool false)
  v1 : W.cell? ⟨w.heap.size + 3, 1, none⟩ = some (.slice none 0 0)
  q0 : W.cell? ⟨w.heap.size + 4, 0, none⟩ = some (.bool sq)
  q1 : W.cell? ⟨w.heap.size + 4, 1, none⟩ = some (.slice oq lq cq)
  r0 : W.cell? ⟨w.heap.size + 5, 0, none⟩ = some (.bool sr)
  r1 : W.cell? ⟨w.heap.size + 5, 1, none⟩ = some (.slice oR lr cr)
  fu0 : W.frozen? ⟨w.heap.size + 2, 0, none⟩ = false
  fu1 : W.frozen? ⟨w.heap.size + 2, 1, none⟩ = false
  fv0 : W.frozen? ⟨w.heap.size + 3, 0, none⟩ = false
  fv1 : W.frozen? ⟨w.heap.size + 3, 1, none⟩ = false
  fq0 : W.frozen? ⟨w.heap.size + 4, 0, none⟩ = false
  fq1 : W.frozen? ⟨w.heap.size + 4, 1, none⟩ = false
  fr0 : W.frozen? ⟨w.heap.size + 5, 0, none⟩ = false
  fr1 : W.frozen? ⟨w.heap.size + 5, 1, none⟩ = false
  ra : Rd W (.slice oa a.length ca) a
  rb : Rd W (.slice ob b.length cb) b
  hq : Bg W (.agg #[.bool sq, .slice oq lq cq]) Q
  hr : Bg W (.agg #[.bool sr, .slice oR lr cr]) R
theorem St.keep {w W W' : World} {oa ob oq oR : Option Addr} {a b : List Int} {ca cb lq cq lr cr : Nat} {sq sr : Bool} {Q R : Int} (h : St w W oa a ca ob b cb sq oq lq cq sr oR lr cr Q R) (hb : Below W.heap.size W W') : St w W' oa a ca ob b cb sq oq lq cq sr oR lr cr Q R where
  bl := bl_step h.bl hb
  a1 := keepc hb h.a1
  b1 := keepc hb h.b1
  u0 := keepc hb h.u0
  u1 := keepc hb h.u1
  v0 := keepc hb h.v0
  v1 := keepc hb h.v1
  q0 := keepc hb h.q0
  q1 := keepc hb h.q1
  r0 := keepc hb h.r0
  r1 := keepc hb h.r1
  fu0 := keepf hb (lt_of_cell h.u0) h.fu0
  fu1 := keepf hb (lt_of_cell h.u0) h.fu1
  fv0 := keepf hb (lt_of_cell h.v0) h.fv0
  fv1 := keepf hb (lt_of_cell h.v0) h.fv1
  fq0 := keepf hb (lt_of_cell h.q0) h.fq0
  fq1 := keepf hb (lt_of_cell h.q0) h.fq1
  fr0 := keepf hb (lt_of_cell h.r0) h.fr0
  fr1 := keepf hb (lt_of_cell h.r0) h.fr1
  ra := h.ra.below hb
  rb := h.rb.below hb
  hq := h.hq.below hb
  hr := h.hr.below hb
theorem St.setQ {w W : World} {oa ob oq oR o : Option Addr} {a b : List Int} {ca cb lq cq lr cr l c : Nat} {sq sr s : Bool} {Q R Z : Int} (h : St w W oa a ca ob b cb sq oq lq cq sr oR lr cr Q R) (hz : Bg W (.agg #[.bool s, .slice o l c]) Z) :
    St w ((W.setCell ⟨w.heap.size + 4, 0, none⟩ (.bool s)).setCell ⟨w.heap.size + 4, 1, none⟩ (.slice o l c)) oa a ca ob b cb s o l c sr oR lr cr Z R := by
  have k1 : ∃ s, W.cell? ⟨w.heap.size + 4, 0, none⟩ = some (.bool s) := ⟨_, h.q0⟩
  have k3 : ∃ s', (W.setCell ⟨w.heap.size + 4, 0, none⟩ (.bool s)).cell? ⟨w.heap.size + 4, 0, none⟩ = some (.bool s') := ⟨s, by simp [go_sem, h.q0]⟩
  obtain ⟨x0, x1⟩ := cell_s0 (p := .bool s) (q := .slice o l c) h.q0 h.q1
  exact {
    bl := bl_set (bl_set h.bl (by omega) _) (by omega) _
    a1 := cell_o (cell_o h.a1 (by omega)) (by omega)
    b1 := cell_o (cell_o h.b1 (by omega)) (by omega)
    u0 := cell_o (cell_o h.u0 (by omega)) (by omega)
    u1 := cell_o (cell_o h.u1 (by omega)) (by omega)
    v0 := cell_o (cell_o h.v0 (by omega)) (by omega)
    v1 := cell_o (cell_o h.v1 (by omega)) (by omega)
    q0 := x0
    q1 := x1
    r0 := cell_o (cell_o h.r0 (by omega)) (by omega)
    r1 := cell_o (cell_o h.r1 (by omega)) (by omega)
    fu0 := froz_o (froz_o h.fu0)
    fu1 := froz_o (froz_o h.fu1)
    fv0 := froz_o (froz_o h.fv0)
    fv1 := froz_o (froz_o h.fv1)
    fq0 := froz_o (froz_o h.fq0)
    fq1 := froz_o (froz_o h.fq1)
    fr0 := froz_o (froz_o h.fr0)
    fr1 := froz_o (froz_o h.fr1)
    ra := (h.ra.set k1).set k3
    rb := (h.rb.set k1).set k3
    hq := (hz.set k1).set k3
    hr := (h.hr.set k1).set k3 }
theorem St.setR {w W : World} {oa ob oq oR o : Option Addr} {a b : List Int} {ca cb lq cq lr cr l c : Nat} {sq sr s : Bool} {Q R Z : Int} (h : St w W oa a ca ob b cb sq oq lq cq sr oR lr cr Q R) (hz : Bg W (.agg #[.bool s, .slice o l c]) Z) :
    St w ((W.setCell ⟨w.heap.size + 5, 0, none⟩ (.bool s)).setCell ⟨w.heap.size + 5, 1, none⟩ (.slice o l c)) oa a ca ob b cb sq oq lq cq s o l c Q Z := by
  have k1 : ∃ s, W.cell? ⟨w.heap.size + 5, 0, none⟩ = some (.bool s) := ⟨_, h.r0⟩
  have k3 : ∃ s', (W.setCell ⟨w.heap.size + 5, 0, none⟩ (.bool s)).cell? ⟨w.heap.size + 5, 0, none⟩ = some (.bool s') := ⟨s, by simp [go_sem, h.r0]⟩
  obtain ⟨x0, x1⟩ := cell_s0 (p := .bool s) (q := .slice o l c) h.r0 h.r1
  exact {
    bl := bl_set (bl_set h.bl (by omega) _) (by omega) _
    a1 := cell_o (cell_o h.a1 (by omega)) (by omega)
    b1 := cell_o (cell_o h.b1 (by omega)) (by omega)
    u0 := cell_o (cell_o h.u0 (by omega)) (by omega)
    u1 := cell_o (cell_o h.u1 (by omega)) (by omega)
    v0 := cell_o (cell_o h.v0 (by omega)) (by omega)
    v1 := cell_o (cell_o h.v1 (by omega)) (by omega)
    q0 := cell_o (cell_o h.q0 (by omega)) (by omega)
    q1 := cell_o (cell_o h.q1 (by omega)) (by omega)
    r0 := x0
    r1 := x1
    fu0 := froz_o (froz_o h.fu0)
    fu1 := froz_o (froz_o h.fu1)
    fv0 := froz_o (froz_o h.fv0)
    fv1 := froz_o (froz_o h.fv1)
    fq0 := froz_o (froz_o h.fq0)
    fq1 := froz_o (froz_o h.fq1)
    fr0 := froz_o (froz_o h.fr0)
    fr1 := froz_o (froz_o h.fr1)
    ra := (h.ra.set k1).set k3
    rb := (h.rb.set k1).set k3
    hq := (h.hq.set k1).set k3
    hr := (hz.set k1).set k3 }
theorem st_new (w : World) (sa sb : Bool) (oa ob : Option Addr) (a b : List Int) (ca cb : Nat) (T1 T2 T3 T4 T5 T6 : TypeId) (ra : Rd w (.slice oa a.length ca) a) (rb : Rd w (.slice ob b.length cb) b) :
    St w ((((((w.alloc (.cells #[.bool sa, .slice oa a.length ca] T1)).alloc (.cells #[.bool sb, .slice ob b.length cb] T2)).alloc (.cells #[.bool false, .slice none 0 0] T3)).alloc (.cells #[.bool false, .slice none 0 0] T4)).alloc (.cells #[.bool false, .slice none 0 0] T5)).alloc (.cells #[.bool false, .slice none 0 0] T6)) oa a ca ob b cb false none 0 0 false none 0 0 0 0 := by
  have B : Below w.heap.size w ((((((w.alloc (.cells #[.bool sa, .slice oa a.length ca] T1)).alloc (.cells #[.bool sb, .slice ob b.length cb] T2)).alloc (.cells #[.bool false, .slice none 0 0] T3)).alloc (.cells #[.bool false, .slice none 0 0] T4)).alloc (.cells #[.bool false, .slice none 0 0] T5)).alloc (.cells #[.bool false, .slice none 0 0] T6)) := by repeat (first | exact Below.refl _ _ | refine bl_alloc ?_ _ | refine Below.drew ?_ | refine bl_drewN ?_ _ | refine bl_set ?_ (by omega) _ | refine bl_step ?_ (by assumption))
  have Z : ∀ W : World, Bg W (.agg #[.bool false, .slice none 0 0]) 0 := fun W => ⟨_, [], by simp, .inl ⟨rfl, rfl⟩, fun _ h => by simp at h, .inl rfl, rfl⟩
  exact { bl := B, a1 := by simp [go_sem], b1 := by simp [go_sem], u0 := by simp [go_sem], u1 := by simp [go_sem], v0 := by simp [go_sem], v1 := by simp [go_sem], q0 := by simp [go_sem], q1 := by simp [go_sem], r0 := by simp [go_sem], r1 := by simp [go_sem], fu0 := by simp [go_sem], fu1 := by simp [go_sem], fv0 := by simp [go_sem], fv1 := by simp [go_sem], fq0 := by simp [go_sem], fq1 := by simp [go_sem], fr0 := by simp [go_sem], fr1 := by simp [go_sem], ra := ra.below B, rb := rb.below B, hq := Z _, hr := Z _ }
def bitv (s : Nat) : Int := 32768 / 2 ^ s
theorem bit_facts : ∀ s : Fin 16, 0 < bitv s.1 ∧ bitv s.1 ≤ 32768 ∧ bitv s.1 / 2 = bitv (s.1 + 1) ∧ bitv s.1 = 2 ^ (15 - s.1) ∧ bitv (s.1 + 1) < bitv s.1 ∧ 0 ≤ bitv (s.1 + 1) := by decide
end Go.Proofs.YtboabgjgcnkelabDoor
namespace Go.Proofs.YtboabgjgcnkelabDoor
open Go.RowKit Go.Shelf
attribute [local go_sem ↓] Go.wp_at_zero Go.wp_at_succ

theorem gen_then {K : Act → World → Prop} {Q : Exit → Act → World → Prop} {a : Act} {W : World} (p : World → Prop) (hp : p W) (h : ∀ W', p W' → Exit.then K Q .normal a W') : Exit.then K Q .normal a W := h W hp
theorem gen_any {F : Act → World → Prop} {a : Act} {W : World} (p : World → Prop) (hp : p W) (h : ∀ W', p W' → F a W') : F a W := h W hp
theorem bd40 {x p : Int} (hp : p = 65536 ^ 16) (h0 : 0 ≤ x) (h : x < 4 * p) : (x.natAbs : Int) < 65536 ^ 40 := by
  have h1 : (x.natAbs : Int) < 4 * p := by omega
  rw [hp] at h1
  exact Int.lt_of_lt_of_le h1 (by decide)
theorem pre_le {H D : Int} (hH : 0 ≤ H) (hD : 0 ≤ D) {s : Nat} (hs : s ≤ 16) : pre H D s ≤ H * 65536 + D := by
  unfold pre
  have h1 : (2 : Int) ^ s ≤ 65536 := by
    have : ∀ s : Fin 17, (2 : Int) ^ s.1 ≤ 65536 := by decide
    exact this ⟨s, by omega⟩
  have h2 : (1 : Int) ≤ 2 ^ (16 - s) := by
    have : (0 : Int) < 2 ^ (16 - s) := Int.pow_pos (by decide)
    omega
  have h3 := Int.mul_le_mul_of_nonneg_left h1 hH
  have h4 := Int.ediv_le_self (2 ^ (16 - s)) hD
  omega
theorem part2 {Q R B t X R' : Int} (hX : X = 2 * (Q * B + R) + t) (h1 : 0 ≤ R) (h2 : R < B) (ht : t = 0 ∨ t = 1) (hQ : 0 ≤ Q) (hR' : R' = R + R + t) :
    (B ≤ R' → X = (Q + Q + 1) * B + (R' - B) ∧ 0 ≤ R' - B ∧ R' - B < B ∧ 0 ≤ Q + Q + 1) ∧ (¬ B ≤ R' → X = (Q + Q) * B + R' ∧ 0 ≤ R' ∧ R' < B ∧ 0 ≤ Q + Q) := by
  have e1 : (Q + Q + 1) * B = Q * B + Q * B + B := by rw [Int.add_mul, Int.add_mul, Int.one_mul]
  have e2 : (Q + Q) * B = Q * B + Q * B := by rw [Int.add_mul]
  rw [e1, e2]
  generalize Q * B = q at *
  omega
theorem div_un {x q r b : Int} (h : x = q * b + r) (h1 : 0 ≤ r) (h2 : r < b) : x / b = q ∧ x % b = r :=
  (Int.ediv_emod_unique (by omega)).2 ⟨by rw [h, Int.mul_comm q b]; omega, h1, h2⟩
theorem St.done {w W : World} {oa ob oq oR : Option Addr} {a b : List Int} {ca cb lq cq lr cr : Nat} {sq sr : Bool} {Q R : Int} (h : St w W oa a ca ob b cb sq oq lq cq sr oR lr cr Q R) {X : World}
    (hX : X = ((((W.setCell ⟨w.heap.size + 2, 0, none⟩ (.bool sq)).setCell ⟨w.heap.size + 2, 1, none⟩ (.slice oq lq cq)).setCell ⟨w.heap.size + 3, 0, none⟩ (.bool sr)).setCell ⟨w.heap.size + 3, 1, none⟩ (.slice oR lr cr)).drew) :
    X.cell? ⟨w.heap.size + 2, 0, none⟩ = some (.bool sq) ∧ X.cell? ⟨w.heap.size + 2, 1, none⟩ = some (.slice oq lq cq) ∧ X.cell? ⟨w.heap.size + 3, 0, none⟩ = some (.bool sr) ∧ X.cell? ⟨w.heap.size + 3, 1, none⟩ = some (.slice oR lr cr) ∧
      Bg X (.agg #[.bool sq, .slice oq lq cq]) Q ∧ Bg X (.agg #[.bool sr, .slice oR lr cr]) R ∧ Below w.heap.size w X := by
  subst hX
  obtain ⟨x0, x1⟩ := cell_s0 (p := .bool sq) (q := .slice oq lq cq) h.u0 h.u1
  have y0 : ((W.setCell ⟨w.heap.size + 2, 0, none⟩ (.bool sq)).setCell ⟨w.heap.size + 2, 1, none⟩ (.slice oq lq cq)).cell? ⟨w.heap.size + 3, 0, none⟩ = some (.bool false) := cell_o (cell_o h.v0 (by omega)) (by omega)
  have y1 : ((W.setCell ⟨w.heap.size + 2, 0, none⟩ (.bool sq)).setCell ⟨w.heap.size + 2, 1, none⟩ (.slice oq lq cq)).cell? ⟨w.heap.size + 3, 1, none⟩ = some (.slice none 0 0) := cell_o (cell_o h.v1 (by omega)) (by omega)
  obtain ⟨z0, z1⟩ := cell_s0 (p := .bool sr) (q := .slice oR lr cr) y0 y1
  have k1 : ∃ s', W.cell? ⟨w.heap.size + 2, 0, none⟩ = some (.bool s') := ⟨_, h.u0⟩
  have k2 : ∃ s', (W.setCell ⟨w.heap.size + 2, 0, none⟩ (.bool sq)).cell? ⟨w.heap.size + 2, 0, none⟩ = some (.bool s') := ⟨sq, by simp [go_sem, h.u0]⟩
  have k3 : ∃ s', ((W.setCell ⟨w.heap.size + 2, 0, none⟩ (.bool sq)).setCell ⟨w.heap.size + 2, 1, none⟩ (.slice oq lq cq)).cell? ⟨w.heap.size + 3, 0, none⟩ = some (.bool s') := ⟨_, y0⟩
  have k4 : ∃ s', (((W.setCell ⟨w.heap.size + 2, 0, none⟩ (.bool sq)).setCell ⟨w.heap.size + 2, 1, none⟩ (.slice oq lq cq)).setCell ⟨w.heap.size + 3, 0, none⟩ (.bool sr)).cell? ⟨w.heap.size + 3, 0, none⟩ = some (.bool s') := ⟨sr, by simp [go_sem, y0]⟩
  have D := (Below.refl ((((W.setCell ⟨w.heap.size + 2, 0, none⟩ (.bool sq)).setCell ⟨w.heap.size + 2, 1, none⟩ (.slice oq lq cq)).setCell ⟨w.heap.size + 3, 0, none⟩ (.bool sr)).setCell ⟨w.heap.size + 3, 1, none⟩ (.slice oR lr cr)).heap.size ((((W.setCell ⟨w.heap.size + 2, 0, none⟩ (.bool sq)).setCell ⟨w.heap.size + 2, 1, none⟩ (.slice oq lq cq)).setCell ⟨w.heap.size + 3, 0, none⟩ (.bool sr)).setCell ⟨w.heap.size + 3, 1, none⟩ (.slice oR lr cr))).drew
  exact ⟨keepc D (cell_o (cell_o x0 (by omega)) (by omega)), keepc D (cell_o (cell_o x1 (by omega)) (by omega)), keepc D z0, keepc D z1,
    ((((h.hq.set k1).set k2).set k3).set k4).below D, ((((h.hr.set k1).set k2).set k3).set k4).below D, bl_step (bl_set (bl_set (bl_set (bl_set h.bl (by omega) _) (by omega) _) (by omega) _) (by omega) _) D⟩
theorem len_ge {a b : List Int} (ha : Dg a) (hb : Dg b) (tb : Tr b) (h : val b ≤ val a) : b.length ≤ a.length := by
  rcases Nat.lt_or_ge a.length b.length with h1 | h1
  · have := cmp_len ha hb tb h1; omega
  · exact h1
set_option maxHeartbeats 6400000 in
set_option maxRecDepth 100000 in
theorem parts_any (a b : List Int) (sa sb : Bool) (oa ob : Option Addr) (ca cb : Nat) (B p : Int) (w : World) (ra : Rd w (.slice oa a.length ca) a) (rb : Rd w (.slice ob b.length cb) b) (da : Dg a) (db : Dg b) (tb : Tr b) (vb : val b = B) (hB : 0 < B) (la : a.length ≤ 16) (lb : b.length ≤ 16)
    (hp : p = 65536 ^ 16) (bB : B < p) (bA : ∀ k, val (a.drop k) < p) :
    Calls Tryd.prog 41 #[.agg #[.bool sa, .slice oa a.length ca], .agg #[.bool sb, .slice ob b.length cb]] w fun e w' => ∃ q r, e = .returned (.tuple #[q, r]) ∧ Bg w' q (val a / B) ∧ Bg w' r (val a % B) ∧ Below w.heap.size w w' := by
  have BD : Hid (∀ x : Int, 0 ≤ x → x < 4 * p → (x.natAbs : Int) < 65536 ^ 40) := hid1 (fun x h0 h1 => bd40 hp h0 h1)
  have DA := hid1 da
  have DB := hid1 db
  have TB := hid1 tb
  have BA := hid1 bA
  have p1 : 1 < p := by omega
  have S0 := hid1 (And.intro ra rb)
  clear da db tb bA ra rb hp
  have em := (show wrap64 ((a.length : Int) - 1) = (a.length : Int) - 1 by unfold wrap64; omega)
  go_enter Tryd.func41, Tryd.ntmps41
  go_wp2_with fail
  go_loopw [8] (fun iv wr => ∃ (k : Nat) (sq : Bool) (oq : Option Addr) (lq cq : Nat) (sr : Bool) (oR : Option Addr) (lr cr : Nat) (Q R : Int), k ≤ a.length ∧ iv = .int .i64 ((k : Int) - 1) ∧ St w wr oa a ca ob b cb sq oq lq cq sr oR lr cr Q R ∧ val (a.drop k) = Q * B + R ∧ 0 ≤ R ∧ R < B ∧ 0 ≤ Q) (fun iv _ => (intOf iv + 1).toNat)
  case atStart => exact ⟨a.length, _, _, _, _, _, _, _, _, 0, 0, Nat.le_refl _, rfl, st_new w _ _ _ _ _ _ _ _ _ _ _ _ _ _ S0.out.1 S0.out.2, by simp [val], by omega, hB, by omega⟩
  case round =>
    obtain ⟨k0, sq0, oq0, lq0, cq0, sr0, or0, lr0, cr0, Q0, R0, hk0, rfl, s0, hv0, hR0, hRB0, hQ0⟩ := hrel
    have SS0 := hid1 s0
    clear s0
    by_cases hlt : 1 ≤ k0
    · obtain ⟨k, rfl⟩ : ∃ k, k0 = k + 1 := ⟨k0 - 1, by omega⟩
      have ek : ((k + 1 : Nat) : Int) - 1 = (k : Int) := by omega
      rw [ek]
      have kk0 : (0 : Int) ≤ (k : Int) := by omega
      have kk : (k : Int) < (a.length : Int) := by omega
      clear ek
      obtain ⟨D1, D2⟩ := dat_bd DA.out k
      have DV := hid1 (drop_val (a := a) (i := k) (by omega))
      have H0 : Hid (0 ≤ val (a.drop (k + 1))) := hid1 (val_nonneg (fun d h => DA.out d (List.mem_of_mem_drop h)))
      go_wp2_with fail
      go_loopw [9] (fun bv wr => ∃ (s : Nat) (sq : Bool) (oq : Option Addr) (lq cq : Nat) (sr : Bool) (oR : Option Addr) (lr cr : Nat) (Q R : Int), s ≤ 16 ∧ bv = .int .i64 (bitv s) ∧ St w wr oa a ca ob b cb sq oq lq cq sr oR lr cr Q R ∧ pre (val (a.drop (k + 1))) (dat a k) s = Q * B + R ∧ 0 ≤ R ∧ R < B ∧ 0 ≤ Q) (fun bv _ => (intOf bv).toNat)
      case atStart => exact ⟨0, _, _, _, _, _, _, _, _, Q0, R0, by omega, rfl, SS0.out, by rw [pre_zero ⟨D1, D2⟩]; exact hv0, hR0, hRB0, hQ0⟩
      case round =>
        clear hv0 hR0 hRB0 hQ0 SS0
        rename World => V
        obtain ⟨s, sq, oq, lq, cq, sr, oR, lr, cr, Q, R, hs, rfl, s0, hv, hR, hRB, hQ⟩ := hrel
        have S1 := hid1 s0
        clear s0
        by_cases hs16 : s < 16
        · obtain ⟨bf1, bf2, bf3, bf4, bf5, bf6⟩ := bit_facts ⟨s, hs16⟩
          dsimp only at bf1 bf2 bf3 bf4 bf5 bf6
          have qb : Q ≤ Q * B := by have := Int.mul_le_mul_of_nonneg_left (show (1 : Int) ≤ B by omega) hQ; omega
          have pb : pre (val (a.drop (k + 1))) (dat a k) s < p := by
            have h1 := pre_le H0.out D1 hs
            have h2 := BA.out k
            rw [DV.out] at h2; omega
          have Qp : Q < p := by omega
          have HV := hid1 hv
          clear hv qb pb
          have PS := hid1 (pre_step (val (a.drop (k + 1))) (dat a k) hs16)
          have bf0 : ¬ bitv s = 0 := by omega
          have tE : Int.tdiv (dat a k) (bitv s) = dat a k / bitv s := Int.tdiv_eq_ediv_of_nonneg D1
          have E0 : 0 ≤ dat a k / bitv s := Int.ediv_nonneg D1 (by omega)
          have E1 : dat a k / bitv s ≤ dat a k := Int.ediv_le_self _ D1
          have bE := hid1 bf4
          clear bf4
          obtain ⟨E, hE⟩ : ∃ E, dat a k / bitv s = E := ⟨_, rfl⟩
          rw [hE] at tE E0 E1
          have PT : Hid (pre (val (a.drop (k + 1))) (dat a k) (s + 1) = 2 * (Q * B + R) + E % 2) := hid1 (by rw [PS.out, HV.out, ← hE, bE.out])
          clear hE
          have wE : wrap64 E = E := by unfold wrap64; omega
          have mE : Int.tmod E 2 = E % 2 := Int.tmod_eq_emod_of_nonneg E0
          have wM : wrap64 (E % 2) = E % 2 := by unfold wrap64; omega
          obtain ⟨nb, hnb⟩ : ∃ nb, bitv (s + 1) = nb := ⟨_, rfl⟩
          rw [hnb] at bf3 bf5 bf6
          have HNB := hid1 hnb
          clear hnb bE PS HV
          generalize bitv s = cbv at *
          have tb2 : Int.tdiv cbv 2 = nb := by rw [Int.tdiv_eq_ediv_of_nonneg (by omega)]; exact bf3
          have wb2 : wrap64 nb = nb := by unfold wrap64; omega
          obtain ⟨ga, rfl, xa⟩ : ∃ g, oa = some ⟨g, 0, none⟩ ∧ V.cell? ⟨g, k, none⟩ = some (.int .i64 (dat a k)) := by
            obtain ⟨ao, cap, e, f⟩ := S1.out.ra.parts
            obtain ⟨g, e2, c⟩ := f k (by omega)
            simp at e
            exact ⟨g, e.1.trans e2, c⟩
          have r0 := S1.out.r0; have r1 := S1.out.r1
          go_wp2_with fail
          refine (radd_any R R _ _ _ S1.out.hr S1.out.hr (BD.out _ (by omega) (by omega)) (BD.out _ (by omega) (by omega))).mono ?_
          rintro e V1 ⟨z1, rfl, hz1, hb1⟩
          obtain ⟨s1, o1, l1, c1, rfl⟩ := hz1.form
          have S2 := hid1 (S1.out.keep hb1)
          have HZ1 := hid1 hz1
          clear hz1 r0 r1 hb1 xa
          have r0 := S2.out.r0; have r1 := S2.out.r1; have fr0 := S2.out.fr0; have fr1 := S2.out.fr1; have q0 := S2.out.q0; have q1 := S2.out.q1
          go_wp2_with fail
          refine gen_calls (fun W' => St w W' (some ⟨ga, 0, none⟩) a ca ob b cb sq oq lq cq s1 o1 l1 c1 Q (R + R)) (S2.out.setR HZ1.out) ?_
          clear r0 r1 fr0 fr1 q0 q1 HZ1 S2
          rintro V2 s3
          have S3 := hid1 s3
          clear s3
          refine (radd_any Q Q _ _ _ S3.out.hq S3.out.hq (BD.out _ (by omega) (by omega)) (BD.out _ (by omega) (by omega))).mono ?_
          rintro e V3 ⟨z2, rfl, hz2, hb2⟩
          obtain ⟨s2, o2, l2, c2, rfl⟩ := hz2.form
          have S4 := hid1 (S3.out.keep hb2)
          have S5 := hid1 (S4.out.setQ hz2)
          clear hz2 hb2 S3
          have q0 := S4.out.q0; have q1 := S4.out.q1; have fq0 := S4.out.fq0; have fq1 := S4.out.fq1
          have a1 := S5.out.a1
          obtain ⟨g', eg, xa⟩ : ∃ g, some (⟨ga, 0, none⟩ : Addr) = some ⟨g, 0, none⟩ ∧ ((V3.setCell ⟨w.heap.size + 4, 0, none⟩ (.bool s2)).setCell ⟨w.heap.size + 4, 1, none⟩ (.slice o2 l2 c2)).cell? ⟨g, k, none⟩ = some (.int .i64 (dat a k)) := by
            obtain ⟨ao, cap, e, f⟩ := S5.out.ra.parts
            obtain ⟨g, e2, c⟩ := f k (by omega)
            simp at e
            exact ⟨g, e.1.trans e2, c⟩
          obtain rfl : ga = g' := by simpa using eg
          have hcase : E % 2 = 0 ∨ E % 2 = 1 := by omega
          rcases hcase with hb0 | hb0
          · have be : (E % 2 == 1) = false := by rw [hb0]; rfl
            have PP := part2 (R' := R + R) PT.out hR hRB (.inl hb0) hQ (by omega)
            have PGa := hid1 PP.1
            have PLa := hid1 PP.2
            clear PP
            have b1 := S5.out.b1; have r0 := S5.out.r0; have r1 := S5.out.r1
            go_wp2_with fail
            refine gen_calls (fun W' => St w W' (some ⟨ga, 0, none⟩) a ca ob b cb s2 o2 l2 c2 s1 o1 l1 c1 (Q + Q) (R + R)) S5.out ?_
            clear a1 q0 q1 fq0 fq1 xa S4 S5 b1 r0 r1
            rintro V4 s6
            have S6 := hid1 s6
            clear s6
            obtain ⟨vra, dra, exa, rdra, ddra, tdra, vdra⟩ := S6.out.hr
            obtain ⟨-, eva⟩ : Value.bool s1 = .bool (decide ((R + R) < 0)) ∧ Value.slice o1 l1 c1 = vra := by simpa using exa
            have vda : val dra = (R + R) := by rw [vdra]; omega
            have lda : dra.length ≤ 40 := len_le ddra tdra (by rw [vdra]; exact BD.out _ (by omega) (by omega))
            rw [← eva] at rdra
            have RRa := hid1 rdra
            have DDa := hid1 ddra
            have TTa := hid1 tdra
            clear rdra ddra tdra vdra exa eva

            refine (compare_any dra b _ _ _ RRa.out S6.out.rb DDa.out DB.out TTa.out TB.out (by omega) (by omega)).mono ?_
            rintro e Y1_a ⟨cca, rfl, hca, hbca⟩
            rw [vda, vb] at hca
            have SCa := hid1 (S6.out.keep hbca)

            have b1 := SCa.out.b1; have r0 := SCa.out.r0; have r1 := SCa.out.r1; have fr0 := SCa.out.fr0; have fr1 := SCa.out.fr1
            by_cases gea : B ≤ (R + R)
            · have cga : cca ≥ 0 := hca.2 gea
              go_wp2_with fail
              refine (minus_any dra b _ _ _ (RRa.out.below hbca) SCa.out.rb DDa.out DB.out (by omega)).mono ?_
              rintro e Y2_a ⟨vma, rfl, oma, hbma⟩
              obtain ⟨ooa, coa, rfl⟩ := own_form oma
              have RMa := hid1 (Rd.own oma)
              have SMa := hid1 (SCa.out.keep hbma)
              clear b1 r0 r1 fr0 fr1 oma
              have b1 := SMa.out.b1; have r0 := SMa.out.r0; have r1 := SMa.out.r1; have fr0 := SMa.out.fr0; have fr1 := SMa.out.fr1; have q0 := SMa.out.q0; have q1 := SMa.out.q1
              have vma : val (mrow dra b dra.length) = (((R + R) - B).natAbs : Int) := by
                rw [(owe_end DDa.out DB.out (by rw [vda, vb]; exact gea) (len_ge DDa.out DB.out TB.out (by rw [vda, vb]; exact gea))).2, vda, vb]; omega
              have VMa := hid1 vma
              clear vma
              go_wp2_with fail
              refine (trim_num ((R + R) - B) false _ (mrow dra b dra.length) _ RMa.out (mrow_dg DDa.out DB.out _) VMa.out (fun _ => rfl) (fun h => by omega)).mono ?_
              rintro e Y3_a ⟨yta, sta, ota, lta, cta, rfl, rfl, hya, hbta⟩
              have STa := hid1 ((SMa.out.keep hbta).setR hya)
              have r0' := (SMa.out.keep hbta).r0; have r1' := (SMa.out.keep hbta).r1; have fr0' := (SMa.out.keep hbta).fr0; have fr1' := (SMa.out.keep hbta).fr1
              clear b1 r0 r1 fr0 fr1 q0 q1 hbta hbma hbca hya RMa VMa RRa
              go_wp2_with fail
              refine gen_world (fun W' => St w W' (some ⟨ga, 0, none⟩) a ca ob b cb s2 o2 l2 c2 sta ota lta cta (Q + Q) ((R + R) - B)) STa.out ?_
              clear r0' r1' fr0' fr1'
              rintro Y4_a sxa
              have SXa := hid1 sxa
              clear sxa
              have q0 := SXa.out.q0; have q1 := SXa.out.q1
              go_region_with (first
                | (go_at_call 24; refine (rint_any 1 ⟨by omega, by omega⟩ _).mono ?_; rintro e X1_za ⟨i1_za, rfl, hi1_za, hbiza⟩; obtain ⟨siza, oiza, liza, ciza, rfl⟩ := hi1_za.form; have HIza := hid1 hi1_za; clear hi1_za; have q0 := keepc hbiza q0; have q1 := keepc hbiza q1; have BIza : Hid (Below Y4_a.heap.size Y4_a X1_za) := hid1 (by repeat (first | exact Below.refl _ _ | refine bl_alloc ?_ _ | refine Below.drew ?_ | refine bl_drewN ?_ _ | refine bl_set ?_ (by omega) _ | refine bl_step ?_ (by assumption))))
                | (go_at_call 60; refine (radd_any (Q + Q) 1 _ _ _ (SXa.out.hq.below BIza.out) HIza.out (BD.out _ (by omega) (by omega)) (BD.out 1 (by omega) (by omega))).mono ?_; rintro e X2_za ⟨i2_za, rfl, hi2_za, hbjza⟩; obtain ⟨sjza, ojza, ljza, cjza, rfl⟩ := hi2_za.form; have HJza := hid1 hi2_za; clear hi2_za; have BJza : Hid (Below Y4_a.heap.size Y4_a X2_za) := hid1 (bl_step BIza.out hbjza); have q0 := (SXa.out.keep BJza.out).q0; have q1 := (SXa.out.keep BJza.out).q1; have fq0 := (SXa.out.keep BJza.out).fq0; have fq1 := (SXa.out.keep BJza.out).fq1))
              all_goals (
                refine gen_any (fun W' => St w W' (some ⟨ga, 0, none⟩) a ca ob b cb sjza ojza ljza cjza sta ota lta cta ((Q + Q) + 1) ((R + R) - B)) ((SXa.out.keep BJza.out).setQ HJza.out) ?_
                rintro Y5_a sya
                have SYa := hid1 sya
                clear sya q0 q1 fq0 fq1
                simp only [Exit.inBlock, Exit.then]
                go_wp2_with fail
                exact ⟨⟨s + 1, _, _, _, _, _, _, _, _, _, _, by omega, by rw [HNB.out], SYa.out, PGa.out gea⟩, by simp [intOf]; omega⟩)
            · have cla : ¬ cca ≥ 0 := fun h => gea (hca.1 h)
              go_wp2_with fail
              exact ⟨⟨s + 1, _, _, _, _, _, _, _, _, _, _, by omega, by rw [HNB.out], SCa.out, PLa.out gea⟩, by simp [intOf]; omega⟩
          · have be : (E % 2 == 1) = true := by rw [hb0]; rfl
            have PP := part2 (R' := R + R + 1) PT.out hR hRB (.inr hb0) hQ (by omega)
            have PGb := hid1 PP.1
            have PLb := hid1 PP.2
            clear PP
            go_wp2_with fail
            refine gen_world (fun W' => St w W' (some ⟨ga, 0, none⟩) a ca ob b cb s2 o2 l2 c2 s1 o1 l1 c1 (Q + Q) (R + R)) S5.out ?_
            clear a1 q0 q1 fq0 fq1 xa S4 S5
            rintro V4 s6
            have S6 := hid1 s6
            clear s6
            have r0 := S6.out.r0; have r1 := S6.out.r1
            go_region_with (first
              | (go_at_call 24; refine (rint_any 1 ⟨by omega, by omega⟩ _).mono ?_; rintro e X1_y ⟨i1_y, rfl, hi1_y, hbiy⟩; obtain ⟨siy, oiy, liy, ciy, rfl⟩ := hi1_y.form; have HIy := hid1 hi1_y; clear hi1_y; have r0 := keepc hbiy r0; have r1 := keepc hbiy r1; have BIy : Hid (Below V4.heap.size V4 X1_y) := hid1 (by repeat (first | exact Below.refl _ _ | refine bl_alloc ?_ _ | refine Below.drew ?_ | refine bl_drewN ?_ _ | refine bl_set ?_ (by omega) _ | refine bl_step ?_ (by assumption))))
              | (go_at_call 60; refine (radd_any (R + R) 1 _ _ _ (S6.out.hr.below BIy.out) HIy.out (BD.out _ (by omega) (by omega)) (BD.out 1 (by omega) (by omega))).mono ?_; rintro e X2_y ⟨i2_y, rfl, hi2_y, hbjy⟩; obtain ⟨sjy, ojy, ljy, cjy, rfl⟩ := hi2_y.form; have HJy := hid1 hi2_y; clear hi2_y; have BJy : Hid (Below V4.heap.size V4 X2_y) := hid1 (bl_step BIy.out hbjy); have r0 := (S6.out.keep BJy.out).r0; have r1 := (S6.out.keep BJy.out).r1; have fr0 := (S6.out.keep BJy.out).fr0; have fr1 := (S6.out.keep BJy.out).fr1))
            all_goals (
              refine gen_then (fun W' => St w W' (some ⟨ga, 0, none⟩) a ca ob b cb s2 o2 l2 c2 sjy ojy ljy cjy (Q + Q) (R + R + 1)) ((S6.out.keep BJy.out).setR HJy.out) ?_
              rintro V6 s7
              have S7 := hid1 s7
              clear s7 r0 r1 fr0 fr1
              have b1 := S7.out.b1; have r0 := S7.out.r0; have r1 := S7.out.r1
              obtain ⟨vrb, drb, exb, rdrb, ddrb, tdrb, vdrb⟩ := S7.out.hr
              obtain ⟨-, evb⟩ : Value.bool sjy = .bool (decide ((R + R + 1) < 0)) ∧ Value.slice ojy ljy cjy = vrb := by simpa using exb
              have vdb : val drb = (R + R + 1) := by rw [vdrb]; omega
              have ldb : drb.length ≤ 40 := len_le ddrb tdrb (by rw [vdrb]; exact BD.out _ (by omega) (by omega))
              rw [← evb] at rdrb
              have RRb := hid1 rdrb
              have DDb := hid1 ddrb
              have TTb := hid1 tdrb
              clear rdrb ddrb tdrb vdrb exb evb
              go_wp2_with fail
              refine (compare_any drb b _ _ _ RRb.out S7.out.rb DDb.out DB.out TTb.out TB.out (by omega) (by omega)).mono ?_
              rintro e Y1_b ⟨ccb, rfl, hcb, hbcb⟩
              rw [vdb, vb] at hcb
              have SCb := hid1 (S7.out.keep hbcb)
              clear b1 r0 r1
              have b1 := SCb.out.b1; have r0 := SCb.out.r0; have r1 := SCb.out.r1; have fr0 := SCb.out.fr0; have fr1 := SCb.out.fr1
              by_cases geb : B ≤ (R + R + 1)
              · have cgb : ccb ≥ 0 := hcb.2 geb
                go_wp2_with fail
                refine (minus_any drb b _ _ _ (RRb.out.below hbcb) SCb.out.rb DDb.out DB.out (by omega)).mono ?_
                rintro e Y2_b ⟨vmb, rfl, omb, hbmb⟩
                obtain ⟨oob, cob, rfl⟩ := own_form omb
                have RMb := hid1 (Rd.own omb)
                have SMb := hid1 (SCb.out.keep hbmb)
                clear b1 r0 r1 fr0 fr1 omb
                have b1 := SMb.out.b1; have r0 := SMb.out.r0; have r1 := SMb.out.r1; have fr0 := SMb.out.fr0; have fr1 := SMb.out.fr1; have q0 := SMb.out.q0; have q1 := SMb.out.q1
                have vmb : val (mrow drb b drb.length) = (((R + R + 1) - B).natAbs : Int) := by
                  rw [(owe_end DDb.out DB.out (by rw [vdb, vb]; exact geb) (len_ge DDb.out DB.out TB.out (by rw [vdb, vb]; exact geb))).2, vdb, vb]; omega
                have VMb := hid1 vmb
                clear vmb
                go_wp2_with fail
                refine (trim_num ((R + R + 1) - B) false _ (mrow drb b drb.length) _ RMb.out (mrow_dg DDb.out DB.out _) VMb.out (fun _ => rfl) (fun h => by omega)).mono ?_
                rintro e Y3_b ⟨ytb, stb, otb, ltb, ctb, rfl, rfl, hyb, hbtb⟩
                have STb := hid1 ((SMb.out.keep hbtb).setR hyb)
                have r0' := (SMb.out.keep hbtb).r0; have r1' := (SMb.out.keep hbtb).r1; have fr0' := (SMb.out.keep hbtb).fr0; have fr1' := (SMb.out.keep hbtb).fr1
                clear b1 r0 r1 fr0 fr1 q0 q1 hbtb hbmb hbcb hyb RMb VMb RRb
                go_wp2_with fail
                refine gen_world (fun W' => St w W' (some ⟨ga, 0, none⟩) a ca ob b cb s2 o2 l2 c2 stb otb ltb ctb (Q + Q) ((R + R + 1) - B)) STb.out ?_
                clear r0' r1' fr0' fr1'
                rintro Y4_b sxb
                have SXb := hid1 sxb
                clear sxb
                have q0 := SXb.out.q0; have q1 := SXb.out.q1
                go_region_with (first
                  | (go_at_call 24; refine (rint_any 1 ⟨by omega, by omega⟩ _).mono ?_; rintro e X1_zb ⟨i1_zb, rfl, hi1_zb, hbizb⟩; obtain ⟨sizb, oizb, lizb, cizb, rfl⟩ := hi1_zb.form; have HIzb := hid1 hi1_zb; clear hi1_zb; have q0 := keepc hbizb q0; have q1 := keepc hbizb q1; have BIzb : Hid (Below Y4_b.heap.size Y4_b X1_zb) := hid1 (by repeat (first | exact Below.refl _ _ | refine bl_alloc ?_ _ | refine Below.drew ?_ | refine bl_drewN ?_ _ | refine bl_set ?_ (by omega) _ | refine bl_step ?_ (by assumption))))
                  | (go_at_call 60; refine (radd_any (Q + Q) 1 _ _ _ (SXb.out.hq.below BIzb.out) HIzb.out (BD.out _ (by omega) (by omega)) (BD.out 1 (by omega) (by omega))).mono ?_; rintro e X2_zb ⟨i2_zb, rfl, hi2_zb, hbjzb⟩; obtain ⟨sjzb, ojzb, ljzb, cjzb, rfl⟩ := hi2_zb.form; have HJzb := hid1 hi2_zb; clear hi2_zb; have BJzb : Hid (Below Y4_b.heap.size Y4_b X2_zb) := hid1 (bl_step BIzb.out hbjzb); have q0 := (SXb.out.keep BJzb.out).q0; have q1 := (SXb.out.keep BJzb.out).q1; have fq0 := (SXb.out.keep BJzb.out).fq0; have fq1 := (SXb.out.keep BJzb.out).fq1))
                all_goals (
                  refine gen_any (fun W' => St w W' (some ⟨ga, 0, none⟩) a ca ob b cb sjzb ojzb ljzb cjzb stb otb ltb ctb ((Q + Q) + 1) ((R + R + 1) - B)) ((SXb.out.keep BJzb.out).setQ HJzb.out) ?_
                  rintro Y5_b syb
                  have SYb := hid1 syb
                  clear syb q0 q1 fq0 fq1
                  simp only [Exit.inBlock, Exit.then]
                  go_wp2_with fail
                  exact ⟨⟨s + 1, _, _, _, _, _, _, _, _, _, _, by omega, by rw [HNB.out], SYb.out, PGb.out geb⟩, by simp [intOf]; omega⟩)
              · have clb : ¬ ccb ≥ 0 := fun h => geb (hcb.1 h)
                go_wp2_with fail
                exact ⟨⟨s + 1, _, _, _, _, _, _, _, _, _, _, by omega, by rw [HNB.out], SCb.out, PLb.out geb⟩, by simp [intOf]; omega⟩)
        · have es : s = 16 := by omega
          subst es
          have b16 : bitv 16 = 0 := by decide
          have ek1 : wrap64 ((k : Int) - 1) = (k : Int) - 1 := by unfold wrap64; omega
          have HV := hid1 hv
          clear hv
          go_wp2_with fail
          exact ⟨⟨k, _, _, _, _, _, _, _, _, _, _, by omega, rfl, S1.out, by rw [DV.out, ← pre_end]; exact HV.out, hR, hRB, hQ⟩, by simp [intOf]⟩
    · have k00 : k0 = 0 := by omega
      subst k00
      have HV := hid1 hv0
      clear hv0
      have q0 := SS0.out.q0; have q1 := SS0.out.q1; have r0 := SS0.out.r0; have r1 := SS0.out.r1; have u0 := SS0.out.u0; have u1 := SS0.out.u1; have v0 := SS0.out.v0; have v1 := SS0.out.v1; have fu0 := SS0.out.fu0; have fu1 := SS0.out.fu1; have fv0 := SS0.out.fv0; have fv1 := SS0.out.fv1
      go_wp2_with fail
      go_region_with fail
      all_goals (
        refine gen_then (fun X => X.cell? ⟨w.heap.size + 2, 0, none⟩ = some (.bool sq0) ∧ X.cell? ⟨w.heap.size + 2, 1, none⟩ = some (.slice oq0 lq0 cq0) ∧ X.cell? ⟨w.heap.size + 3, 0, none⟩ = some (.bool sr0) ∧ X.cell? ⟨w.heap.size + 3, 1, none⟩ = some (.slice or0 lr0 cr0) ∧
          Bg X (.agg #[.bool sq0, .slice oq0 lq0 cq0]) Q0 ∧ Bg X (.agg #[.bool sr0, .slice or0 lr0 cr0]) R0 ∧ Below w.heap.size w X) (SS0.out.done rfl) ?_
        rintro X ⟨e0, e1, e2, e3, hq, hr, hX⟩
        have HQ := hid1 (And.intro hq (And.intro hr hX))
        clear hq hr hX q0 q1 r0 r1 u0 u1 v0 v1 fu0 fu1 fv0 fv1
        go_wp2_with fail
        simp [bodyPost, results, Tryd.results41, go_sem, e0, e1, e2, e3]
        obtain ⟨hq, hr, hX⟩ := HQ.out
        obtain ⟨d1, d2⟩ := div_un (x := val a) HV.out hR0 hRB0
        rw [d1, d2]
        first | exact ⟨hq, hr, hX⟩ | exact ⟨_, _, ⟨rfl, rfl⟩, hq, hr, hX⟩ | exact ⟨_, _, rfl, hq, hr, hX⟩ | exact ⟨_, rfl, _, rfl, hq, hr, hX⟩ | exact ⟨_, _, ⟨rfl, rfl⟩, ⟨hq, hr, hX⟩⟩)
end Go.Proofs.YtboabgjgcnkelabDoor
namespace Go.Proofs.YtboabgjgcnkelabDoor
open Go.RowKit Go.Shelf

theorem drop_dg {ds : List Int} (h : Dg ds) (k : Nat) : Dg (ds.drop k) := fun d hd => h d (List.mem_of_mem_drop hd)
theorem drop_lt {ds : List Int} (h : Dg ds) (hl : ds.length ≤ 16) (k : Nat) : val (ds.drop k) < 65536 ^ 16 := by
  have h1 := val_lt (drop_dg h k)
  have h2 : (65536 : Int) ^ (ds.drop k).length ≤ 65536 ^ 16 := pow_le_pow' (by simp; omega)
  exact Int.lt_of_lt_of_le h1 h2
/-- Quotient and rest of two numbers that are not below 0. -/
theorem rparts_any (m n : Int) (x y : Value) (w : World) (hx : Bg w x m) (hy : Bg w y n) (m0 : 0 ≤ m) (n0 : 0 < n) (hm : (m.natAbs : Int) < 65536 ^ 16) (hn : (n.natAbs : Int) < 65536 ^ 16) :
    Calls Tryd.prog 41 #[x, y] w fun e w' => ∃ q r, e = .returned (.tuple #[q, r]) ∧ Bg w' q (m / n) ∧ Bg w' r (m % n) ∧ Below w.heap.size w w' := by
  obtain ⟨va, a, rfl, ra, da, ta, ea⟩ := hx
  obtain ⟨vb, b, rfl, rb, db, tb, eb⟩ := hy
  obtain ⟨ao, ca, rfl, _⟩ := ra.parts
  obtain ⟨bo, cb, rfl, _⟩ := rb.parts
  have la : a.length ≤ 16 := len_le da ta (by rw [ea]; exact hm)
  have lb : b.length ≤ 16 := len_le db tb (by rw [eb]; exact hn)
  have e1 : val a = m := by rw [ea]; omega
  have e2 : val b = n := by rw [eb]; omega
  have h := parts_any a b (decide (m < 0)) (decide (n < 0)) ao bo ca cb n _ w ra rb da db tb e2 n0 la lb rfl (by rw [eb] at e2; exact Int.lt_of_le_of_lt (Int.le_of_eq e2.symm) hn) (drop_lt da la)
  rw [e1] at h
  exact h
end Go.Proofs.YtboabgjgcnkelabDoor
/-
  FRACTIONS WRITTEN AND READ: plain mathematics. No Go in sight.
-/
namespace Go.Proofs.YtboabgjgcnkelabDoor
open Go.Lib

theorem pu_app (M : Nat) (r : List UInt8) : ∀ (l : List UInt8) (acc a : Nat), parseUintM M acc l = .ok a → parseUintM M acc (l ++ r) = parseUintM M a r
  | [], acc, a, h => by simp [parseUintM] at h; subst h; rfl
  | c :: l, acc, a, h => by
    rw [List.cons_append]
    unfold parseUintM at h
    conv => lhs; unfold parseUintM
    split at h
    · rename_i h1
      rw [if_pos h1]
      split at h
      · cases h
      · rename_i h2
        rw [if_neg h2]
        split at h
        · cases h
        · rename_i h3
          rw [if_neg h3]
          exact pu_app M r l _ a h
    · cases h
theorem dig_nat {k : Nat} (h : k < 10) : (UInt8.ofNat (48 + k)).toNat = 48 + k := by
  rw [UInt8.toNat_ofNat']; omega
theorem pu_one {M a k : Nat} (hk : k < 10) (h1 : a < 1844674407370955162) (h2 : a * 10 + k ≤ M) : parseUintM M a [UInt8.ofNat (48 + k)] = .ok (a * 10 + k) := by
  unfold parseUintM
  rw [dig_nat hk, if_pos (by omega), if_neg (by omega), if_neg (by omega)]
  have : 48 + k - 48 = k := by omega
  rw [this]
  rfl
theorem pu_dec (M : Nat) : ∀ u : Nat, u ≤ M → u < 1844674407370955162 → parseUintM M 0 (decDigits u) = .ok u := by
  intro u
  induction u using Nat.strongRecOn with
  | _ u ih =>
    intro h1 h2
    rw [decDigits]
    split
    · rename_i h
      have := pu_one (M := M) (a := 0) (k := u) h (by omega) (by omega)
      simpa using this
    · rename_i h
      rw [pu_app M _ _ _ _ (ih (u / 10) (by omega) (by omega) (by omega))]
      rw [pu_one (by omega) (by omega) (by omega)]
      congr 1; omega
theorem dec_dig : ∀ (u : Nat), ∀ c ∈ decDigits u, 48 ≤ c.toNat ∧ c.toNat ≤ 57 := by
  intro u
  induction u using Nat.strongRecOn with
  | _ u ih =>
    intro c hc
    rw [decDigits] at hc
    split at hc
    · rename_i h
      rw [List.mem_singleton] at hc
      subst hc
      rw [dig_nat h]; omega
    · rename_i h
      rw [List.mem_append] at hc
      rcases hc with hc | hc
      · exact ih (u / 10) (by omega) c hc
      · rw [List.mem_singleton] at hc
        subst hc
        rw [dig_nat (by omega)]; omega
theorem dec_cons (u : Nat) : ∃ c r, decDigits u = c :: r ∧ 48 ≤ c.toNat ∧ c.toNat ≤ 57 := by
  have hd := dec_dig u
  cases e : decDigits u with
  | nil =>
    exfalso
    rw [decDigits] at e
    split at e
    · cases e
    · simp at e
  | cons c r => exact ⟨c, r, rfl, hd c (by rw [e]; simp)⟩
theorem pb_dec (u : Nat) (h : u < 2147483648) : parseUintB 64 (decDigits u) = .ok u := by
  unfold parseUintB
  obtain ⟨c, r, e, _⟩ := dec_cons u
  rw [if_neg (by rw [e]; simp)]
  exact pu_dec _ u (by omega) (by omega)
theorem parse_itoa {n : Int} (h1 : -2147483647 ≤ n) (h2 : n ≤ 2147483647) : parseIntB 64 (itoa n) = .ok n := by
  unfold itoa
  split
  · rename_i h
    have hp := pb_dec n.natAbs (by omega)
    simp only [parseIntB]
    rw [if_pos (by decide), hp]
    have e : (45 : UInt8).toNat = 45 := rfl
    simp only [e]
    rw [if_neg (by simp), if_neg (by omega)]
    simp
    omega
  · rename_i h
    have hp := pb_dec n.toNat (by omega)
    obtain ⟨c, r, e, c1, c2⟩ := dec_cons n.toNat
    rw [e] at hp ⊢
    simp only [parseIntB]
    rw [if_neg (by omega), hp]
    have hc : ¬ c.toNat = 45 := by omega
    simp only [hc]
    rw [if_neg (by omega), if_neg (by simp)]
    simp
    omega
theorem itoa_stroke (n : Int) : (47 : UInt8) ∉ itoa n := by
  unfold itoa
  split
  · intro h
    rw [List.mem_cons] at h
    rcases h with h | h
    · cases h
    · have := dec_dig _ _ h
      have e : (47 : UInt8).toNat = 47 := rfl
      omega
  · intro h
    have := dec_dig _ _ h
    have e : (47 : UInt8).toNat = 47 := rfl
    omega
theorem index_cases (c : UInt8) : ∀ l : List UInt8, (indexByte l c = -1 ∧ c ∉ l) ∨ ∃ a b, l = a ++ c :: b ∧ c ∉ a ∧ indexByte l c = (a.length : Int)
  | [] => Or.inl ⟨rfl, by simp⟩
  | x :: l => by
    unfold indexByte
    by_cases h : x = c
    · subst h
      right
      exact ⟨[], l, rfl, by simp, by simp⟩
    · have hx : (x == c) = false := by simpa using h
      rw [hx]
      rcases index_cases c l with ⟨h1, h2⟩ | ⟨a, b, h1, h2, h3⟩
      · left
        rw [h1]
        refine ⟨by simp, ?_⟩
        rw [List.mem_cons]
        rintro (e | e)
        · exact h e.symm
        · exact h2 e
      · right
        refine ⟨x :: a, b, by rw [h1]; rfl, ?_, ?_⟩
        · rw [List.mem_cons]
          rintro (e | e)
          · exact h e.symm
          · exact h2 e
        · rw [h3]
          have : ((a.length : Int) == -1) = false := by simp <;> omega
          simp [this]
/-- A text in its two parts. -/
def Sp (l a b : List UInt8) : Prop := ((47 : UInt8) ∉ l ∧ a = l ∧ b = [49]) ∨ (l = a ++ 47 :: b ∧ (47 : UInt8) ∉ a)
theorem split_uniq {c : UInt8} : ∀ {a a' b b' : List UInt8}, c ∉ a → c ∉ a' → a ++ c :: b = a' ++ c :: b' → a = a' ∧ b = b'
  | [], [], b, b', _, _, h => by simp at h; exact ⟨rfl, h⟩
  | [], y :: a', b, b', _, h2, h => by
    simp at h
    exact absurd (by rw [h.1]; simp) h2
  | x :: a, [], b, b', h1, _, h => by
    simp at h
    exact absurd (by rw [← h.1]; simp) h1
  | x :: a, y :: a', b, b', h1, h2, h => by
    simp at h
    have := split_uniq (c := c) (a := a) (a' := a') (b := b) (b' := b') (fun k => h1 (by simp [k])) (fun k => h2 (by simp [k])) h.2
    exact ⟨by rw [h.1, this.1], this.2⟩
theorem sp_uniq {l a b a' b' : List UInt8} (h : Sp l a b) (k : Sp l a' b') : a = a' ∧ b = b' := by
  rcases h with ⟨h1, rfl, rfl⟩ | ⟨h1, h2⟩
  · rcases k with ⟨_, rfl, rfl⟩ | ⟨k1, _⟩
    · exact ⟨rfl, rfl⟩
    · exact absurd (by rw [k1]; simp) h1
  · rcases k with ⟨k1, _, _⟩ | ⟨k1, k2⟩
    · exact absurd (by rw [h1]; simp) k1
    · exact split_uniq h2 k2 (h1 ▸ k1)
end Go.Proofs.YtboabgjgcnkelabDoor
/- READ: CUT AT ONE BYTE, NUMBERS PARSED. -/
namespace Go.Proofs.YtboabgjgcnkelabDoor
open Go.RowKit Go.Shelf
attribute [local go_sem ↓] Go.wp_at_zero Go.wp_at_succ

theorem ext_list {s : ByteArray} {i j : Nat} {l : List UInt8} (h : (s.data.toList.drop i).take (j - i) = l) : s.extract i j = ⟨l.toArray⟩ := by
  apply ByteArray.ext
  rw [ByteArray.data_extract]
  apply Array.ext'
  simp only [Array.toList_extract, List.extract_eq_take_drop]
  exact h
theorem lcut_no (s : ByteArray) (h : (47 : UInt8) ∉ s.data.toList) (w : World) :
    Calls Tryd.prog 37 #[.string s, .string ⟨#[47]⟩] w fun e w' => e = .returned (.tuple #[.string s, .string ⟨#[]⟩, .bool false]) ∧ w' = w := by
  have hi : Lib.indexByte s.data.toList 47 = -1 := by
    rcases index_cases 47 s.data.toList with ⟨h1, _⟩ | ⟨a, b, h1, _, _⟩
    · exact h1
    · exact absurd (by rw [h1]; simp) h
  have HI := hid1 (Tryd.stringslite_Index_one s 47)
  rw [hi] at HI
  clear hi h
  go_enter Tryd.func37, Tryd.ntmps37
  go_wp2_with fail
  refine (HI.out _).mono ?_
  rintro e w1 ⟨rfl, rfl⟩
  go_wp2
  simp [bodyPost, results, Tryd.results37, go_sem]
theorem lcut_yes (s : ByteArray) (a b : List UInt8) (hs : s.data.toList = a ++ 47 :: b) (ha : (47 : UInt8) ∉ a) (hl : s.size ≤ 281474976710656) (w : World) :
    Calls Tryd.prog 37 #[.string s, .string ⟨#[47]⟩] w fun e w' => e = .returned (.tuple #[.string ⟨a.toArray⟩, .string ⟨b.toArray⟩, .bool true]) ∧ ∃ n, w' = w.drewN n := by
  have hi : Lib.indexByte s.data.toList 47 = (a.length : Int) := by
    rcases index_cases 47 s.data.toList with ⟨_, h1⟩ | ⟨a', b', h1, h2, h3⟩
    · exact absurd (by rw [hs]; simp) h1
    · rw [h3, (split_uniq h2 ha (h1.symm.trans hs)).1]
  have HI := hid1 (Tryd.stringslite_Index_one s 47)
  rw [hi] at HI
  have hz : s.size = a.length + 1 + b.length := by
    have : s.size = s.data.toList.length := rfl
    rw [this, hs]; simp; omega
  obtain ⟨k, ek⟩ : ∃ k, a.length = k := ⟨_, rfl⟩
  rw [ek] at HI hz
  have k1 : k ≤ s.size := by omega
  have k2 : k + 1 ≤ s.size := by omega
  go_enter Tryd.func37, Tryd.ntmps37
  go_wp2_with fail
  refine (HI.out _).mono ?_
  rintro e w1 ⟨rfl, rfl⟩
  go_wp2_with fail
  go_quiet (fail)
  go_wp2
  simp [bodyPost, results, Tryd.results37, go_sem]
  refine ⟨⟨ext_list ?_, ext_list ?_⟩, _, rfl⟩
  · rw [hs, ← ek]; simp
  · have e1 : a ++ 47 :: b = (a ++ [47]) ++ b := by simp
    have e2 : k + 1 + b.length - (k + 1) = b.length := by omega
    rw [hs, e1, List.drop_left' (by simp [ek]), e2, List.take_length]
theorem cut_no (s : ByteArray) (h : (47 : UInt8) ∉ s.data.toList) (w : World) :
    Calls Tryd.prog 20 #[.string s, .string ⟨#[47]⟩] w fun e w' => e = .returned (.tuple #[.string s, .string ⟨#[]⟩, .bool false]) ∧ Below w.heap.size w w' := by
  go_enter Tryd.func20, Tryd.ntmps20
  go_wp2_with fail
  refine (lcut_no s h _).mono ?_
  rintro e w1 ⟨rfl, rfl⟩
  go_wp2
  simp [bodyPost, results, Tryd.results20, go_sem]
  exact Below.refl _ _
theorem cut_yes (s : ByteArray) (a b : List UInt8) (hs : s.data.toList = a ++ 47 :: b) (ha : (47 : UInt8) ∉ a) (hl : s.size ≤ 281474976710656) (w : World) :
    Calls Tryd.prog 20 #[.string s, .string ⟨#[47]⟩] w fun e w' => e = .returned (.tuple #[.string ⟨a.toArray⟩, .string ⟨b.toArray⟩, .bool true]) ∧ Below w.heap.size w w' := by
  go_enter Tryd.func20, Tryd.ntmps20
  go_wp2_with fail
  refine (lcut_yes s a b hs ha hl _).mono ?_
  rintro e w1 ⟨rfl, n, rfl⟩
  go_wp2
  simp [bodyPost, results, Tryd.results20, go_sem]
  repeat (first | exact Below.refl _ _ | refine bl_alloc ?_ _ | refine Below.drew ?_ | refine bl_drewN ?_ _ | refine bl_set ?_ (by omega) _ | refine bl_step ?_ (by assumption))
/-- What the listed variables hold. -/
structure LaidB (w : World) : Prop where
  pow : LaidP w
  syn : ∃ tp p, w.cell? ⟨2, 0, none⟩ = some (.iface tp p)
  rng : ∃ tp p, w.cell? ⟨3, 0, none⟩ = some (.iface tp p)
theorem LaidB.on {w w' : World} (h : LaidB w) (hb : Below w.heap.size w w') : LaidB w' := by
  obtain ⟨a, ⟨t, p, b⟩, ⟨t', p', c⟩⟩ := h
  exact ⟨a.on hb, ⟨t, p, keepc hb b⟩, ⟨t', p', keepc hb c⟩⟩
theorem parse_ok (s : ByteArray) (hl : s.size ≤ 281474976710656) (v : Int) (h : Lib.parseIntB 64 s.data.toList = .ok v) (w : World) :
    Calls Tryd.prog 21 #[.string s, .int .i64 10, .int .i64 64] w fun e w' => e = .returned (.tuple #[.int .i64 v, .nilIface]) ∧ Below w.heap.size w w' := by
  refine (Tryd.strconv_ParseInt_10_at64_ok s (by omega) v h w).mono ?_
  rintro e w' ⟨rfl, rfl | ⟨t, rfl⟩⟩
  · exact ⟨rfl, Below.refl _ _⟩
  · exact ⟨rfl, Lib.bytesWorld_below _ _ _⟩
theorem parse_no (s : ByteArray) (hl : s.size ≤ 281474976710656) (h : ∀ v, ¬ Lib.parseIntB 64 s.data.toList = .ok v) (w : World) (L : LaidB w) :
    Calls Tryd.prog 21 #[.string s, .int .i64 10, .int .i64 64] w fun e w' => ∃ v T N, e = .returned (.tuple #[.int .i64 v, .iface T (.pointer (some ⟨N, 0, none⟩))]) ∧ Below w.heap.size w w' := by
  cases k : Lib.parseIntB 64 s.data.toList with
  | ok v => exact absurd k (h v)
  | «syntax» =>
    obtain ⟨tp, p, hc⟩ := L.syn
    refine (Tryd.strconv_ParseInt_10_at64_syntax s hl k _ w hc (Or.inr ⟨_, _, rfl⟩)).mono ?_
    rintro e w' ⟨N, rfl, _, _, hb⟩
    exact ⟨_, _, _, rfl, hb⟩
  | range =>
    obtain ⟨tp, p, hc⟩ := L.rng
    refine (Tryd.strconv_ParseInt_10_at64_range s hl k _ w hc (Or.inr ⟨_, _, rfl⟩)).mono ?_
    rintro e w' ⟨N, rfl, _, _, hb⟩
    exact ⟨_, _, _, rfl, hb⟩
end Go.Proofs.YtboabgjgcnkelabDoor
/- READ, WALKED. -/
namespace Go.Proofs.YtboabgjgcnkelabDoor
open Go.RowKit Go.Shelf
attribute [local go_sem ↓] Go.wp_at_zero Go.wp_at_succ

/-- Two cells of a fraction, which may be written. -/
def Fy (w : World) (b : Nat) (n d : Int) : Prop := w.cell? ⟨b, 0, none⟩ = some (.int .i64 n) ∧ w.cell? ⟨b, 1, none⟩ = some (.int .i64 d) ∧ w.frozen? ⟨b, 0, none⟩ = false ∧ w.frozen? ⟨b, 1, none⟩ = false
theorem Fy.keep {w w' : World} {b : Nat} {n d : Int} (h : Fy w b n d) (hb : Below w.heap.size w w') : Fy w' b n d := by
  have z := lt_of_cell h.1
  exact ⟨keepc hb h.1, keepc hb h.2.1, keepf hb z h.2.2.1, keepf hb z h.2.2.2⟩
theorem fy_new {W : World} {t : TypeId} {g : Nat} {n d : Int} (hg : W.heap.size = g) : Fy (W.alloc (.cells #[.int .i64 n, .int .i64 d] t)) g n d := by
  subst hg
  exact ⟨by simp [go_sem], by simp [go_sem], by simp [go_sem], by simp [go_sem]⟩
set_option maxRecDepth 100000 in
theorem read_t_no_ok_x (s A B : ByteArray) (d : Int) (HC : Hid (∀ w : World, Calls Tryd.prog 20 #[.string s, .string ⟨#[47]⟩] w fun e w' => e = .returned (.tuple #[.string A, .string B, .bool true]) ∧ Below w.heap.size w w')) (PA : Hid (∀ w : World, LaidB w → Calls Tryd.prog 21 #[.string A, .int .i64 10, .int .i64 64] w fun e w' => ∃ v T N, e = .returned (.tuple #[.int .i64 v, .iface T (.pointer (some ⟨N, 0, none⟩))]) ∧ Below w.heap.size w w')) (PB : Hid (∀ w : World, Calls Tryd.prog 21 #[.string B, .int .i64 10, .int .i64 64] w fun e w' => e = .returned (.tuple #[.int .i64 d, .nilIface]) ∧ Below w.heap.size w w')) (w : World) (L : LaidB w) :
    Calls Tryd.prog 9 #[.string s] w fun e w' => e = .returned (.tuple #[fr 0 0, .int .i64 40]) ∧ Below w.heap.size w w' := by
  have HL := hid1 L
  clear L
  go_enter Tryd.func9, Tryd.ntmps9
  go_wp2_with fail
  refine (HC.out _).mono ?_
  rintro e w1 ⟨rfl, hb1⟩
  have HF : Hid (Fy w1 w.heap.size 0 0) := hid1 (Fy.keep (w := w.alloc _) (fy_new rfl) hb1)
  have B1 : Below w.heap.size w w1 := by repeat (first | (with_reducible exact Below.refl _ _) | (with_reducible refine bl_alloc ?_ _) | (with_reducible refine Below.drew ?_) | (with_reducible refine bl_drewN ?_ _) | (with_reducible refine bl_set ?_ (by omega) _) | (with_reducible refine bl_step ?_ (by assumption)))
  have HL1 := hid1 (HL.out.on B1)
  clear hb1
  go_wp2_with fail
  refine (PA.out _ HL1.out).mono ?_
  rintro e w2 ⟨v2, T2, N2, rfl, hb2⟩
  replace HF := hid1 (HF.out.keep hb2)
  have B2 : Below w.heap.size w w2 := by repeat (first | (with_reducible exact Below.refl _ _) | (with_reducible refine bl_alloc ?_ _) | (with_reducible refine Below.drew ?_) | (with_reducible refine bl_drewN ?_ _) | (with_reducible refine bl_set ?_ (by omega) _) | (with_reducible refine bl_step ?_ (by assumption)))
  have HL2 := hid1 (HL.out.on B2)
  clear hb2
  go_wp2_with fail
  refine (PB.out _).mono ?_
  rintro e w3 ⟨rfl, hb3⟩
  replace HF := hid1 (HF.out.keep hb3)
  have B3 : Below w.heap.size w w3 := by repeat (first | (with_reducible exact Below.refl _ _) | (with_reducible refine bl_alloc ?_ _) | (with_reducible refine Below.drew ?_) | (with_reducible refine bl_drewN ?_ _) | (with_reducible refine bl_set ?_ (by omega) _) | (with_reducible refine bl_step ?_ (by assumption)))
  have HL3 := hid1 (HL.out.on B3)
  clear hb3
  obtain ⟨c0, c1, f0, f1⟩ := HF.out
  have z := lt_of_cell c0
  go_wp2
  simp [bodyPost, results, Tryd.results9, go_sem, *]
  repeat (first | (with_reducible exact Below.refl _ _) | (with_reducible refine bl_alloc ?_ _) | (with_reducible refine Below.drew ?_) | (with_reducible refine bl_drewN ?_ _) | (with_reducible refine bl_set ?_ (by omega) _) | (with_reducible refine bl_step ?_ (by assumption)))
set_option maxRecDepth 100000 in
theorem read_t_no_no_x (s A B : ByteArray) (HC : Hid (∀ w : World, Calls Tryd.prog 20 #[.string s, .string ⟨#[47]⟩] w fun e w' => e = .returned (.tuple #[.string A, .string B, .bool true]) ∧ Below w.heap.size w w')) (PA : Hid (∀ w : World, LaidB w → Calls Tryd.prog 21 #[.string A, .int .i64 10, .int .i64 64] w fun e w' => ∃ v T N, e = .returned (.tuple #[.int .i64 v, .iface T (.pointer (some ⟨N, 0, none⟩))]) ∧ Below w.heap.size w w')) (PB : Hid (∀ w : World, LaidB w → Calls Tryd.prog 21 #[.string B, .int .i64 10, .int .i64 64] w fun e w' => ∃ v T N, e = .returned (.tuple #[.int .i64 v, .iface T (.pointer (some ⟨N, 0, none⟩))]) ∧ Below w.heap.size w w')) (w : World) (L : LaidB w) :
    Calls Tryd.prog 9 #[.string s] w fun e w' => e = .returned (.tuple #[fr 0 0, .int .i64 40]) ∧ Below w.heap.size w w' := by
  have HL := hid1 L
  clear L
  go_enter Tryd.func9, Tryd.ntmps9
  go_wp2_with fail
  refine (HC.out _).mono ?_
  rintro e w1 ⟨rfl, hb1⟩
  have HF : Hid (Fy w1 w.heap.size 0 0) := hid1 (Fy.keep (w := w.alloc _) (fy_new rfl) hb1)
  have B1 : Below w.heap.size w w1 := by repeat (first | (with_reducible exact Below.refl _ _) | (with_reducible refine bl_alloc ?_ _) | (with_reducible refine Below.drew ?_) | (with_reducible refine bl_drewN ?_ _) | (with_reducible refine bl_set ?_ (by omega) _) | (with_reducible refine bl_step ?_ (by assumption)))
  have HL1 := hid1 (HL.out.on B1)
  clear hb1
  go_wp2_with fail
  refine (PA.out _ HL1.out).mono ?_
  rintro e w2 ⟨v2, T2, N2, rfl, hb2⟩
  replace HF := hid1 (HF.out.keep hb2)
  have B2 : Below w.heap.size w w2 := by repeat (first | (with_reducible exact Below.refl _ _) | (with_reducible refine bl_alloc ?_ _) | (with_reducible refine Below.drew ?_) | (with_reducible refine bl_drewN ?_ _) | (with_reducible refine bl_set ?_ (by omega) _) | (with_reducible refine bl_step ?_ (by assumption)))
  have HL2 := hid1 (HL.out.on B2)
  clear hb2
  go_wp2_with fail
  refine (PB.out _ HL2.out).mono ?_
  rintro e w3 ⟨v3, T3, N3, rfl, hb3⟩
  replace HF := hid1 (HF.out.keep hb3)
  have B3 : Below w.heap.size w w3 := by repeat (first | (with_reducible exact Below.refl _ _) | (with_reducible refine bl_alloc ?_ _) | (with_reducible refine Below.drew ?_) | (with_reducible refine bl_drewN ?_ _) | (with_reducible refine bl_set ?_ (by omega) _) | (with_reducible refine bl_step ?_ (by assumption)))
  have HL3 := hid1 (HL.out.on B3)
  clear hb3
  obtain ⟨c0, c1, f0, f1⟩ := HF.out
  have z := lt_of_cell c0
  go_wp2
  simp [bodyPost, results, Tryd.results9, go_sem, *]
  repeat (first | (with_reducible exact Below.refl _ _) | (with_reducible refine bl_alloc ?_ _) | (with_reducible refine Below.drew ?_) | (with_reducible refine bl_drewN ?_ _) | (with_reducible refine bl_set ?_ (by omega) _) | (with_reducible refine bl_step ?_ (by assumption)))
set_option maxRecDepth 100000 in
theorem read_t_ok_no_x (s A B : ByteArray) (n : Int) (HC : Hid (∀ w : World, Calls Tryd.prog 20 #[.string s, .string ⟨#[47]⟩] w fun e w' => e = .returned (.tuple #[.string A, .string B, .bool true]) ∧ Below w.heap.size w w')) (PA : Hid (∀ w : World, Calls Tryd.prog 21 #[.string A, .int .i64 10, .int .i64 64] w fun e w' => e = .returned (.tuple #[.int .i64 n, .nilIface]) ∧ Below w.heap.size w w')) (PB : Hid (∀ w : World, LaidB w → Calls Tryd.prog 21 #[.string B, .int .i64 10, .int .i64 64] w fun e w' => ∃ v T N, e = .returned (.tuple #[.int .i64 v, .iface T (.pointer (some ⟨N, 0, none⟩))]) ∧ Below w.heap.size w w')) (w : World) (L : LaidB w) :
    Calls Tryd.prog 9 #[.string s] w fun e w' => e = .returned (.tuple #[fr 0 0, .int .i64 40]) ∧ Below w.heap.size w w' := by
  have HL := hid1 L
  clear L
  go_enter Tryd.func9, Tryd.ntmps9
  go_wp2_with fail
  refine (HC.out _).mono ?_
  rintro e w1 ⟨rfl, hb1⟩
  have HF : Hid (Fy w1 w.heap.size 0 0) := hid1 (Fy.keep (w := w.alloc _) (fy_new rfl) hb1)
  have B1 : Below w.heap.size w w1 := by repeat (first | (with_reducible exact Below.refl _ _) | (with_reducible refine bl_alloc ?_ _) | (with_reducible refine Below.drew ?_) | (with_reducible refine bl_drewN ?_ _) | (with_reducible refine bl_set ?_ (by omega) _) | (with_reducible refine bl_step ?_ (by assumption)))
  have HL1 := hid1 (HL.out.on B1)
  clear hb1
  go_wp2_with fail
  refine (PA.out _).mono ?_
  rintro e w2 ⟨rfl, hb2⟩
  replace HF := hid1 (HF.out.keep hb2)
  have B2 : Below w.heap.size w w2 := by repeat (first | (with_reducible exact Below.refl _ _) | (with_reducible refine bl_alloc ?_ _) | (with_reducible refine Below.drew ?_) | (with_reducible refine bl_drewN ?_ _) | (with_reducible refine bl_set ?_ (by omega) _) | (with_reducible refine bl_step ?_ (by assumption)))
  have HL2 := hid1 (HL.out.on B2)
  clear hb2
  go_wp2_with fail
  refine (PB.out _ HL2.out).mono ?_
  rintro e w3 ⟨v3, T3, N3, rfl, hb3⟩
  replace HF := hid1 (HF.out.keep hb3)
  have B3 : Below w.heap.size w w3 := by repeat (first | (with_reducible exact Below.refl _ _) | (with_reducible refine bl_alloc ?_ _) | (with_reducible refine Below.drew ?_) | (with_reducible refine bl_drewN ?_ _) | (with_reducible refine bl_set ?_ (by omega) _) | (with_reducible refine bl_step ?_ (by assumption)))
  have HL3 := hid1 (HL.out.on B3)
  clear hb3
  obtain ⟨c0, c1, f0, f1⟩ := HF.out
  have z := lt_of_cell c0
  go_wp2
  simp [bodyPost, results, Tryd.results9, go_sem, *]
  repeat (first | (with_reducible exact Below.refl _ _) | (with_reducible refine bl_alloc ?_ _) | (with_reducible refine Below.drew ?_) | (with_reducible refine bl_drewN ?_ _) | (with_reducible refine bl_set ?_ (by omega) _) | (with_reducible refine bl_step ?_ (by assumption)))
set_option maxRecDepth 100000 in
theorem read_t_ok_ok_bad (s A B t : ByteArray) (n d : Int) (HC : Hid (∀ w : World, Calls Tryd.prog 20 #[.string s, .string ⟨#[47]⟩] w fun e w' => e = .returned (.tuple #[.string A, .string B, .bool true]) ∧ Below w.heap.size w w')) (PA : Hid (∀ w : World, Calls Tryd.prog 21 #[.string A, .int .i64 10, .int .i64 64] w fun e w' => e = .returned (.tuple #[.int .i64 n, .nilIface]) ∧ Below w.heap.size w w')) (PB : Hid (∀ w : World, Calls Tryd.prog 21 #[.string B, .int .i64 10, .int .i64 64] w fun e w' => e = .returned (.tuple #[.int .i64 d, .nilIface]) ∧ Below w.heap.size w w')) (HS : Hid (∀ w : World, LaidP w → Calls Tryd.prog 8 #[fr n d] w fun e w' => e = .returned (.tuple #[.string t, .int .i64 40]) ∧ Below w.heap.size w w')) (w : World) (L : LaidB w) :
    Calls Tryd.prog 9 #[.string s] w fun e w' => e = .returned (.tuple #[fr 0 0, .int .i64 40]) ∧ Below w.heap.size w w' := by
  have HL := hid1 L
  clear L
  go_enter Tryd.func9, Tryd.ntmps9
  go_wp2_with fail
  refine (HC.out _).mono ?_
  rintro e w1 ⟨rfl, hb1⟩
  have HF : Hid (Fy w1 w.heap.size 0 0) := hid1 (Fy.keep (w := w.alloc _) (fy_new rfl) hb1)
  have B1 : Below w.heap.size w w1 := by repeat (first | (with_reducible exact Below.refl _ _) | (with_reducible refine bl_alloc ?_ _) | (with_reducible refine Below.drew ?_) | (with_reducible refine bl_drewN ?_ _) | (with_reducible refine bl_set ?_ (by omega) _) | (with_reducible refine bl_step ?_ (by assumption)))
  have HL1 := hid1 (HL.out.on B1)
  clear hb1
  go_wp2_with fail
  refine (PA.out _).mono ?_
  rintro e w2 ⟨rfl, hb2⟩
  replace HF := hid1 (HF.out.keep hb2)
  have B2 : Below w.heap.size w w2 := by repeat (first | (with_reducible exact Below.refl _ _) | (with_reducible refine bl_alloc ?_ _) | (with_reducible refine Below.drew ?_) | (with_reducible refine bl_drewN ?_ _) | (with_reducible refine bl_set ?_ (by omega) _) | (with_reducible refine bl_step ?_ (by assumption)))
  have HL2 := hid1 (HL.out.on B2)
  clear hb2
  go_wp2_with fail
  refine (PB.out _).mono ?_
  rintro e w3 ⟨rfl, hb3⟩
  replace HF := hid1 (HF.out.keep hb3)
  have B3 : Below w.heap.size w w3 := by repeat (first | (with_reducible exact Below.refl _ _) | (with_reducible refine bl_alloc ?_ _) | (with_reducible refine Below.drew ?_) | (with_reducible refine bl_drewN ?_ _) | (with_reducible refine bl_set ?_ (by omega) _) | (with_reducible refine bl_step ?_ (by assumption)))
  have HL3 := hid1 (HL.out.on B3)
  clear hb3
  go_wp2_with fail
  refine gen_calls (fun W' => Below w.heap.size w W' ∧ Below w3.heap.size w3 W' ∧ Hid (Fy W' w3.heap.size n d)) ⟨by repeat (first | (with_reducible exact Below.refl _ _) | (with_reducible refine bl_alloc ?_ _) | (with_reducible refine Below.drew ?_) | (with_reducible refine bl_drewN ?_ _) | (with_reducible refine bl_set ?_ (by omega) _) | (with_reducible refine bl_step ?_ (by assumption))), by repeat (first | (with_reducible exact Below.refl _ _) | (with_reducible refine bl_alloc ?_ _) | (with_reducible refine Below.drew ?_) | (with_reducible refine bl_drewN ?_ _) | (with_reducible refine bl_set ?_ (by omega) _) | (with_reducible refine bl_step ?_ (by assumption))), hid1 (fy_new rfl)⟩ ?_
  rintro W4 ⟨B4, b4, HG⟩
  replace HF := hid1 (HF.out.keep b4)
  clear b4
  refine (HS.out _ (HL.out.on B4).pow).mono ?_
  rintro e w5 ⟨rfl, hb5⟩
  replace HF := hid1 (HF.out.keep hb5)
  replace HG := hid1 (HG.out.keep hb5)
  have B5 : Below w.heap.size w w5 := by repeat (first | (with_reducible exact Below.refl _ _) | (with_reducible refine bl_alloc ?_ _) | (with_reducible refine Below.drew ?_) | (with_reducible refine bl_drewN ?_ _) | (with_reducible refine bl_set ?_ (by omega) _) | (with_reducible refine bl_step ?_ (by assumption)))
  clear hb5 B4 B1 B2
  obtain ⟨g0, g1, _, _⟩ := HG.out
  obtain ⟨c0, c1, f0, f1⟩ := HF.out
  have z := lt_of_cell c0
  go_wp2
  simp [bodyPost, results, Tryd.results9, go_sem, *]
  repeat (first | (with_reducible exact Below.refl _ _) | (with_reducible refine bl_alloc ?_ _) | (with_reducible refine Below.drew ?_) | (with_reducible refine bl_drewN ?_ _) | (with_reducible refine bl_set ?_ (by omega) _) | (with_reducible refine bl_step ?_ (by assumption)))
set_option maxRecDepth 100000 in
theorem read_t_ok_ok_other (s A B t : ByteArray) (n d : Int) (HC : Hid (∀ w : World, Calls Tryd.prog 20 #[.string s, .string ⟨#[47]⟩] w fun e w' => e = .returned (.tuple #[.string A, .string B, .bool true]) ∧ Below w.heap.size w w')) (PA : Hid (∀ w : World, Calls Tryd.prog 21 #[.string A, .int .i64 10, .int .i64 64] w fun e w' => e = .returned (.tuple #[.int .i64 n, .nilIface]) ∧ Below w.heap.size w w')) (PB : Hid (∀ w : World, Calls Tryd.prog 21 #[.string B, .int .i64 10, .int .i64 64] w fun e w' => e = .returned (.tuple #[.int .i64 d, .nilIface]) ∧ Below w.heap.size w w')) (HS : Hid (∀ w : World, LaidP w → Calls Tryd.prog 8 #[fr n d] w fun e w' => e = .returned (.tuple #[.string t, .int .i64 0]) ∧ Below w.heap.size w w')) (ht : (t.toList == s.toList) = false) (w : World) (L : LaidB w) :
    Calls Tryd.prog 9 #[.string s] w fun e w' => e = .returned (.tuple #[fr 0 0, .int .i64 40]) ∧ Below w.heap.size w w' := by
  have HL := hid1 L
  clear L
  go_enter Tryd.func9, Tryd.ntmps9
  go_wp2_with fail
  refine (HC.out _).mono ?_
  rintro e w1 ⟨rfl, hb1⟩
  have HF : Hid (Fy w1 w.heap.size 0 0) := hid1 (Fy.keep (w := w.alloc _) (fy_new rfl) hb1)
  have B1 : Below w.heap.size w w1 := by repeat (first | (with_reducible exact Below.refl _ _) | (with_reducible refine bl_alloc ?_ _) | (with_reducible refine Below.drew ?_) | (with_reducible refine bl_drewN ?_ _) | (with_reducible refine bl_set ?_ (by omega) _) | (with_reducible refine bl_step ?_ (by assumption)))
  have HL1 := hid1 (HL.out.on B1)
  clear hb1
  go_wp2_with fail
  refine (PA.out _).mono ?_
  rintro e w2 ⟨rfl, hb2⟩
  replace HF := hid1 (HF.out.keep hb2)
  have B2 : Below w.heap.size w w2 := by repeat (first | (with_reducible exact Below.refl _ _) | (with_reducible refine bl_alloc ?_ _) | (with_reducible refine Below.drew ?_) | (with_reducible refine bl_drewN ?_ _) | (with_reducible refine bl_set ?_ (by omega) _) | (with_reducible refine bl_step ?_ (by assumption)))
  have HL2 := hid1 (HL.out.on B2)
  clear hb2
  go_wp2_with fail
  refine (PB.out _).mono ?_
  rintro e w3 ⟨rfl, hb3⟩
  replace HF := hid1 (HF.out.keep hb3)
  have B3 : Below w.heap.size w w3 := by repeat (first | (with_reducible exact Below.refl _ _) | (with_reducible refine bl_alloc ?_ _) | (with_reducible refine Below.drew ?_) | (with_reducible refine bl_drewN ?_ _) | (with_reducible refine bl_set ?_ (by omega) _) | (with_reducible refine bl_step ?_ (by assumption)))
  have HL3 := hid1 (HL.out.on B3)
  clear hb3
  go_wp2_with fail
  refine gen_calls (fun W' => Below w.heap.size w W' ∧ Below w3.heap.size w3 W' ∧ Hid (Fy W' w3.heap.size n d)) ⟨by repeat (first | (with_reducible exact Below.refl _ _) | (with_reducible refine bl_alloc ?_ _) | (with_reducible refine Below.drew ?_) | (with_reducible refine bl_drewN ?_ _) | (with_reducible refine bl_set ?_ (by omega) _) | (with_reducible refine bl_step ?_ (by assumption))), by repeat (first | (with_reducible exact Below.refl _ _) | (with_reducible refine bl_alloc ?_ _) | (with_reducible refine Below.drew ?_) | (with_reducible refine bl_drewN ?_ _) | (with_reducible refine bl_set ?_ (by omega) _) | (with_reducible refine bl_step ?_ (by assumption))), hid1 (fy_new rfl)⟩ ?_
  rintro W4 ⟨B4, b4, HG⟩
  replace HF := hid1 (HF.out.keep b4)
  clear b4
  refine (HS.out _ (HL.out.on B4).pow).mono ?_
  rintro e w5 ⟨rfl, hb5⟩
  replace HF := hid1 (HF.out.keep hb5)
  replace HG := hid1 (HG.out.keep hb5)
  have B5 : Below w.heap.size w w5 := by repeat (first | (with_reducible exact Below.refl _ _) | (with_reducible refine bl_alloc ?_ _) | (with_reducible refine Below.drew ?_) | (with_reducible refine bl_drewN ?_ _) | (with_reducible refine bl_set ?_ (by omega) _) | (with_reducible refine bl_step ?_ (by assumption)))
  clear hb5 B4 B1 B2
  obtain ⟨g0, g1, _, _⟩ := HG.out
  obtain ⟨c0, c1, f0, f1⟩ := HF.out
  have z := lt_of_cell c0
  go_wp2
  simp [bodyPost, results, Tryd.results9, go_sem, *]
  repeat (first | (with_reducible exact Below.refl _ _) | (with_reducible refine bl_alloc ?_ _) | (with_reducible refine Below.drew ?_) | (with_reducible refine bl_drewN ?_ _) | (with_reducible refine bl_set ?_ (by omega) _) | (with_reducible refine bl_step ?_ (by assumption)))
set_option maxRecDepth 100000 in
theorem read_t_ok_ok_good (s A B : ByteArray) (n d : Int) (HC : Hid (∀ w : World, Calls Tryd.prog 20 #[.string s, .string ⟨#[47]⟩] w fun e w' => e = .returned (.tuple #[.string A, .string B, .bool true]) ∧ Below w.heap.size w w')) (PA : Hid (∀ w : World, Calls Tryd.prog 21 #[.string A, .int .i64 10, .int .i64 64] w fun e w' => e = .returned (.tuple #[.int .i64 n, .nilIface]) ∧ Below w.heap.size w w')) (PB : Hid (∀ w : World, Calls Tryd.prog 21 #[.string B, .int .i64 10, .int .i64 64] w fun e w' => e = .returned (.tuple #[.int .i64 d, .nilIface]) ∧ Below w.heap.size w w')) (HS : Hid (∀ w : World, LaidP w → Calls Tryd.prog 8 #[fr n d] w fun e w' => e = .returned (.tuple #[.string s, .int .i64 0]) ∧ Below w.heap.size w w')) (w : World) (L : LaidB w) :
    Calls Tryd.prog 9 #[.string s] w fun e w' => e = .returned (.tuple #[fr n d, .int .i64 0]) ∧ Below w.heap.size w w' := by
  have HL := hid1 L
  clear L
  go_enter Tryd.func9, Tryd.ntmps9
  go_wp2_with fail
  refine (HC.out _).mono ?_
  rintro e w1 ⟨rfl, hb1⟩
  have HF : Hid (Fy w1 w.heap.size 0 0) := hid1 (Fy.keep (w := w.alloc _) (fy_new rfl) hb1)
  have B1 : Below w.heap.size w w1 := by repeat (first | (with_reducible exact Below.refl _ _) | (with_reducible refine bl_alloc ?_ _) | (with_reducible refine Below.drew ?_) | (with_reducible refine bl_drewN ?_ _) | (with_reducible refine bl_set ?_ (by omega) _) | (with_reducible refine bl_step ?_ (by assumption)))
  have HL1 := hid1 (HL.out.on B1)
  clear hb1
  go_wp2_with fail
  refine (PA.out _).mono ?_
  rintro e w2 ⟨rfl, hb2⟩
  replace HF := hid1 (HF.out.keep hb2)
  have B2 : Below w.heap.size w w2 := by repeat (first | (with_reducible exact Below.refl _ _) | (with_reducible refine bl_alloc ?_ _) | (with_reducible refine Below.drew ?_) | (with_reducible refine bl_drewN ?_ _) | (with_reducible refine bl_set ?_ (by omega) _) | (with_reducible refine bl_step ?_ (by assumption)))
  have HL2 := hid1 (HL.out.on B2)
  clear hb2
  go_wp2_with fail
  refine (PB.out _).mono ?_
  rintro e w3 ⟨rfl, hb3⟩
  replace HF := hid1 (HF.out.keep hb3)
  have B3 : Below w.heap.size w w3 := by repeat (first | (with_reducible exact Below.refl _ _) | (with_reducible refine bl_alloc ?_ _) | (with_reducible refine Below.drew ?_) | (with_reducible refine bl_drewN ?_ _) | (with_reducible refine bl_set ?_ (by omega) _) | (with_reducible refine bl_step ?_ (by assumption)))
  have HL3 := hid1 (HL.out.on B3)
  clear hb3
  go_wp2_with fail
  refine gen_calls (fun W' => Below w.heap.size w W' ∧ Below w3.heap.size w3 W' ∧ Hid (Fy W' w3.heap.size n d)) ⟨by repeat (first | (with_reducible exact Below.refl _ _) | (with_reducible refine bl_alloc ?_ _) | (with_reducible refine Below.drew ?_) | (with_reducible refine bl_drewN ?_ _) | (with_reducible refine bl_set ?_ (by omega) _) | (with_reducible refine bl_step ?_ (by assumption))), by repeat (first | (with_reducible exact Below.refl _ _) | (with_reducible refine bl_alloc ?_ _) | (with_reducible refine Below.drew ?_) | (with_reducible refine bl_drewN ?_ _) | (with_reducible refine bl_set ?_ (by omega) _) | (with_reducible refine bl_step ?_ (by assumption))), hid1 (fy_new rfl)⟩ ?_
  rintro W4 ⟨B4, b4, HG⟩
  replace HF := hid1 (HF.out.keep b4)
  clear b4
  refine (HS.out _ (HL.out.on B4).pow).mono ?_
  rintro e w5 ⟨rfl, hb5⟩
  replace HF := hid1 (HF.out.keep hb5)
  replace HG := hid1 (HG.out.keep hb5)
  have B5 : Below w.heap.size w w5 := by repeat (first | (with_reducible exact Below.refl _ _) | (with_reducible refine bl_alloc ?_ _) | (with_reducible refine Below.drew ?_) | (with_reducible refine bl_drewN ?_ _) | (with_reducible refine bl_set ?_ (by omega) _) | (with_reducible refine bl_step ?_ (by assumption)))
  clear hb5 B4 B1 B2
  obtain ⟨g0, g1, _, _⟩ := HG.out
  obtain ⟨c0, c1, f0, f1⟩ := HF.out
  have z := lt_of_cell c0
  go_wp2
  simp [bodyPost, results, Tryd.results9, go_sem, *]
  repeat (first | (with_reducible exact Below.refl _ _) | (with_reducible refine bl_alloc ?_ _) | (with_reducible refine Below.drew ?_) | (with_reducible refine bl_drewN ?_ _) | (with_reducible refine bl_set ?_ (by omega) _) | (with_reducible refine bl_step ?_ (by assumption)))
set_option maxRecDepth 100000 in
theorem read_f_no_ok_x (s A : ByteArray) (d : Int) (HC : Hid (∀ w : World, Calls Tryd.prog 20 #[.string s, .string ⟨#[47]⟩] w fun e w' => e = .returned (.tuple #[.string A, .string ⟨#[]⟩, .bool false]) ∧ Below w.heap.size w w')) (PA : Hid (∀ w : World, LaidB w → Calls Tryd.prog 21 #[.string A, .int .i64 10, .int .i64 64] w fun e w' => ∃ v T N, e = .returned (.tuple #[.int .i64 v, .iface T (.pointer (some ⟨N, 0, none⟩))]) ∧ Below w.heap.size w w')) (PB : Hid (∀ w : World, Calls Tryd.prog 21 #[.string ⟨#[49]⟩, .int .i64 10, .int .i64 64] w fun e w' => e = .returned (.tuple #[.int .i64 d, .nilIface]) ∧ Below w.heap.size w w')) (w : World) (L : LaidB w) :
    Calls Tryd.prog 9 #[.string s] w fun e w' => e = .returned (.tuple #[fr 0 0, .int .i64 40]) ∧ Below w.heap.size w w' := by
  have HL := hid1 L
  clear L
  go_enter Tryd.func9, Tryd.ntmps9
  go_wp2_with fail
  refine (HC.out _).mono ?_
  rintro e w1 ⟨rfl, hb1⟩
  have HF : Hid (Fy w1 w.heap.size 0 0) := hid1 (Fy.keep (w := w.alloc _) (fy_new rfl) hb1)
  have B1 : Below w.heap.size w w1 := by repeat (first | (with_reducible exact Below.refl _ _) | (with_reducible refine bl_alloc ?_ _) | (with_reducible refine Below.drew ?_) | (with_reducible refine bl_drewN ?_ _) | (with_reducible refine bl_set ?_ (by omega) _) | (with_reducible refine bl_step ?_ (by assumption)))
  have HL1 := hid1 (HL.out.on B1)
  clear hb1
  go_wp2_with fail
  refine (PA.out _ HL1.out).mono ?_
  rintro e w2 ⟨v2, T2, N2, rfl, hb2⟩
  replace HF := hid1 (HF.out.keep hb2)
  have B2 : Below w.heap.size w w2 := by repeat (first | (with_reducible exact Below.refl _ _) | (with_reducible refine bl_alloc ?_ _) | (with_reducible refine Below.drew ?_) | (with_reducible refine bl_drewN ?_ _) | (with_reducible refine bl_set ?_ (by omega) _) | (with_reducible refine bl_step ?_ (by assumption)))
  have HL2 := hid1 (HL.out.on B2)
  clear hb2
  go_wp2_with fail
  refine (PB.out _).mono ?_
  rintro e w3 ⟨rfl, hb3⟩
  replace HF := hid1 (HF.out.keep hb3)
  have B3 : Below w.heap.size w w3 := by repeat (first | (with_reducible exact Below.refl _ _) | (with_reducible refine bl_alloc ?_ _) | (with_reducible refine Below.drew ?_) | (with_reducible refine bl_drewN ?_ _) | (with_reducible refine bl_set ?_ (by omega) _) | (with_reducible refine bl_step ?_ (by assumption)))
  have HL3 := hid1 (HL.out.on B3)
  clear hb3
  obtain ⟨c0, c1, f0, f1⟩ := HF.out
  have z := lt_of_cell c0
  go_wp2
  simp [bodyPost, results, Tryd.results9, go_sem, *]
  repeat (first | (with_reducible exact Below.refl _ _) | (with_reducible refine bl_alloc ?_ _) | (with_reducible refine Below.drew ?_) | (with_reducible refine bl_drewN ?_ _) | (with_reducible refine bl_set ?_ (by omega) _) | (with_reducible refine bl_step ?_ (by assumption)))
set_option maxRecDepth 100000 in
theorem read_f_no_no_x (s A : ByteArray) (HC : Hid (∀ w : World, Calls Tryd.prog 20 #[.string s, .string ⟨#[47]⟩] w fun e w' => e = .returned (.tuple #[.string A, .string ⟨#[]⟩, .bool false]) ∧ Below w.heap.size w w')) (PA : Hid (∀ w : World, LaidB w → Calls Tryd.prog 21 #[.string A, .int .i64 10, .int .i64 64] w fun e w' => ∃ v T N, e = .returned (.tuple #[.int .i64 v, .iface T (.pointer (some ⟨N, 0, none⟩))]) ∧ Below w.heap.size w w')) (PB : Hid (∀ w : World, LaidB w → Calls Tryd.prog 21 #[.string ⟨#[49]⟩, .int .i64 10, .int .i64 64] w fun e w' => ∃ v T N, e = .returned (.tuple #[.int .i64 v, .iface T (.pointer (some ⟨N, 0, none⟩))]) ∧ Below w.heap.size w w')) (w : World) (L : LaidB w) :
    Calls Tryd.prog 9 #[.string s] w fun e w' => e = .returned (.tuple #[fr 0 0, .int .i64 40]) ∧ Below w.heap.size w w' := by
  have HL := hid1 L
  clear L
  go_enter Tryd.func9, Tryd.ntmps9
  go_wp2_with fail
  refine (HC.out _).mono ?_
  rintro e w1 ⟨rfl, hb1⟩
  have HF : Hid (Fy w1 w.heap.size 0 0) := hid1 (Fy.keep (w := w.alloc _) (fy_new rfl) hb1)
  have B1 : Below w.heap.size w w1 := by repeat (first | (with_reducible exact Below.refl _ _) | (with_reducible refine bl_alloc ?_ _) | (with_reducible refine Below.drew ?_) | (with_reducible refine bl_drewN ?_ _) | (with_reducible refine bl_set ?_ (by omega) _) | (with_reducible refine bl_step ?_ (by assumption)))
  have HL1 := hid1 (HL.out.on B1)
  clear hb1
  go_wp2_with fail
  refine (PA.out _ HL1.out).mono ?_
  rintro e w2 ⟨v2, T2, N2, rfl, hb2⟩
  replace HF := hid1 (HF.out.keep hb2)
  have B2 : Below w.heap.size w w2 := by repeat (first | (with_reducible exact Below.refl _ _) | (with_reducible refine bl_alloc ?_ _) | (with_reducible refine Below.drew ?_) | (with_reducible refine bl_drewN ?_ _) | (with_reducible refine bl_set ?_ (by omega) _) | (with_reducible refine bl_step ?_ (by assumption)))
  have HL2 := hid1 (HL.out.on B2)
  clear hb2
  go_wp2_with fail
  refine (PB.out _ HL2.out).mono ?_
  rintro e w3 ⟨v3, T3, N3, rfl, hb3⟩
  replace HF := hid1 (HF.out.keep hb3)
  have B3 : Below w.heap.size w w3 := by repeat (first | (with_reducible exact Below.refl _ _) | (with_reducible refine bl_alloc ?_ _) | (with_reducible refine Below.drew ?_) | (with_reducible refine bl_drewN ?_ _) | (with_reducible refine bl_set ?_ (by omega) _) | (with_reducible refine bl_step ?_ (by assumption)))
  have HL3 := hid1 (HL.out.on B3)
  clear hb3
  obtain ⟨c0, c1, f0, f1⟩ := HF.out
  have z := lt_of_cell c0
  go_wp2
  simp [bodyPost, results, Tryd.results9, go_sem, *]
  repeat (first | (with_reducible exact Below.refl _ _) | (with_reducible refine bl_alloc ?_ _) | (with_reducible refine Below.drew ?_) | (with_reducible refine bl_drewN ?_ _) | (with_reducible refine bl_set ?_ (by omega) _) | (with_reducible refine bl_step ?_ (by assumption)))
set_option maxRecDepth 100000 in
theorem read_f_ok_no_x (s A : ByteArray) (n : Int) (HC : Hid (∀ w : World, Calls Tryd.prog 20 #[.string s, .string ⟨#[47]⟩] w fun e w' => e = .returned (.tuple #[.string A, .string ⟨#[]⟩, .bool false]) ∧ Below w.heap.size w w')) (PA : Hid (∀ w : World, Calls Tryd.prog 21 #[.string A, .int .i64 10, .int .i64 64] w fun e w' => e = .returned (.tuple #[.int .i64 n, .nilIface]) ∧ Below w.heap.size w w')) (PB : Hid (∀ w : World, LaidB w → Calls Tryd.prog 21 #[.string ⟨#[49]⟩, .int .i64 10, .int .i64 64] w fun e w' => ∃ v T N, e = .returned (.tuple #[.int .i64 v, .iface T (.pointer (some ⟨N, 0, none⟩))]) ∧ Below w.heap.size w w')) (w : World) (L : LaidB w) :
    Calls Tryd.prog 9 #[.string s] w fun e w' => e = .returned (.tuple #[fr 0 0, .int .i64 40]) ∧ Below w.heap.size w w' := by
  have HL := hid1 L
  clear L
  go_enter Tryd.func9, Tryd.ntmps9
  go_wp2_with fail
  refine (HC.out _).mono ?_
  rintro e w1 ⟨rfl, hb1⟩
  have HF : Hid (Fy w1 w.heap.size 0 0) := hid1 (Fy.keep (w := w.alloc _) (fy_new rfl) hb1)
  have B1 : Below w.heap.size w w1 := by repeat (first | (with_reducible exact Below.refl _ _) | (with_reducible refine bl_alloc ?_ _) | (with_reducible refine Below.drew ?_) | (with_reducible refine bl_drewN ?_ _) | (with_reducible refine bl_set ?_ (by omega) _) | (with_reducible refine bl_step ?_ (by assumption)))
  have HL1 := hid1 (HL.out.on B1)
  clear hb1
  go_wp2_with fail
  refine (PA.out _).mono ?_
  rintro e w2 ⟨rfl, hb2⟩
  replace HF := hid1 (HF.out.keep hb2)
  have B2 : Below w.heap.size w w2 := by repeat (first | (with_reducible exact Below.refl _ _) | (with_reducible refine bl_alloc ?_ _) | (with_reducible refine Below.drew ?_) | (with_reducible refine bl_drewN ?_ _) | (with_reducible refine bl_set ?_ (by omega) _) | (with_reducible refine bl_step ?_ (by assumption)))
  have HL2 := hid1 (HL.out.on B2)
  clear hb2
  go_wp2_with fail
  refine (PB.out _ HL2.out).mono ?_
  rintro e w3 ⟨v3, T3, N3, rfl, hb3⟩
  replace HF := hid1 (HF.out.keep hb3)
  have B3 : Below w.heap.size w w3 := by repeat (first | (with_reducible exact Below.refl _ _) | (with_reducible refine bl_alloc ?_ _) | (with_reducible refine Below.drew ?_) | (with_reducible refine bl_drewN ?_ _) | (with_reducible refine bl_set ?_ (by omega) _) | (with_reducible refine bl_step ?_ (by assumption)))
  have HL3 := hid1 (HL.out.on B3)
  clear hb3
  obtain ⟨c0, c1, f0, f1⟩ := HF.out
  have z := lt_of_cell c0
  go_wp2
  simp [bodyPost, results, Tryd.results9, go_sem, *]
  repeat (first | (with_reducible exact Below.refl _ _) | (with_reducible refine bl_alloc ?_ _) | (with_reducible refine Below.drew ?_) | (with_reducible refine bl_drewN ?_ _) | (with_reducible refine bl_set ?_ (by omega) _) | (with_reducible refine bl_step ?_ (by assumption)))
set_option maxRecDepth 100000 in
theorem read_f_ok_ok_bad (s A t : ByteArray) (n d : Int) (HC : Hid (∀ w : World, Calls Tryd.prog 20 #[.string s, .string ⟨#[47]⟩] w fun e w' => e = .returned (.tuple #[.string A, .string ⟨#[]⟩, .bool false]) ∧ Below w.heap.size w w')) (PA : Hid (∀ w : World, Calls Tryd.prog 21 #[.string A, .int .i64 10, .int .i64 64] w fun e w' => e = .returned (.tuple #[.int .i64 n, .nilIface]) ∧ Below w.heap.size w w')) (PB : Hid (∀ w : World, Calls Tryd.prog 21 #[.string ⟨#[49]⟩, .int .i64 10, .int .i64 64] w fun e w' => e = .returned (.tuple #[.int .i64 d, .nilIface]) ∧ Below w.heap.size w w')) (HS : Hid (∀ w : World, LaidP w → Calls Tryd.prog 8 #[fr n d] w fun e w' => e = .returned (.tuple #[.string t, .int .i64 40]) ∧ Below w.heap.size w w')) (w : World) (L : LaidB w) :
    Calls Tryd.prog 9 #[.string s] w fun e w' => e = .returned (.tuple #[fr 0 0, .int .i64 40]) ∧ Below w.heap.size w w' := by
  have HL := hid1 L
  clear L
  go_enter Tryd.func9, Tryd.ntmps9
  go_wp2_with fail
  refine (HC.out _).mono ?_
  rintro e w1 ⟨rfl, hb1⟩
  have HF : Hid (Fy w1 w.heap.size 0 0) := hid1 (Fy.keep (w := w.alloc _) (fy_new rfl) hb1)
  have B1 : Below w.heap.size w w1 := by repeat (first | (with_reducible exact Below.refl _ _) | (with_reducible refine bl_alloc ?_ _) | (with_reducible refine Below.drew ?_) | (with_reducible refine bl_drewN ?_ _) | (with_reducible refine bl_set ?_ (by omega) _) | (with_reducible refine bl_step ?_ (by assumption)))
  have HL1 := hid1 (HL.out.on B1)
  clear hb1
  go_wp2_with fail
  refine (PA.out _).mono ?_
  rintro e w2 ⟨rfl, hb2⟩
  replace HF := hid1 (HF.out.keep hb2)
  have B2 : Below w.heap.size w w2 := by repeat (first | (with_reducible exact Below.refl _ _) | (with_reducible refine bl_alloc ?_ _) | (with_reducible refine Below.drew ?_) | (with_reducible refine bl_drewN ?_ _) | (with_reducible refine bl_set ?_ (by omega) _) | (with_reducible refine bl_step ?_ (by assumption)))
  have HL2 := hid1 (HL.out.on B2)
  clear hb2
  go_wp2_with fail
  refine (PB.out _).mono ?_
  rintro e w3 ⟨rfl, hb3⟩
  replace HF := hid1 (HF.out.keep hb3)
  have B3 : Below w.heap.size w w3 := by repeat (first | (with_reducible exact Below.refl _ _) | (with_reducible refine bl_alloc ?_ _) | (with_reducible refine Below.drew ?_) | (with_reducible refine bl_drewN ?_ _) | (with_reducible refine bl_set ?_ (by omega) _) | (with_reducible refine bl_step ?_ (by assumption)))
  have HL3 := hid1 (HL.out.on B3)
  clear hb3
  go_wp2_with fail
  refine gen_calls (fun W' => Below w.heap.size w W' ∧ Below w3.heap.size w3 W' ∧ Hid (Fy W' w3.heap.size n d)) ⟨by repeat (first | (with_reducible exact Below.refl _ _) | (with_reducible refine bl_alloc ?_ _) | (with_reducible refine Below.drew ?_) | (with_reducible refine bl_drewN ?_ _) | (with_reducible refine bl_set ?_ (by omega) _) | (with_reducible refine bl_step ?_ (by assumption))), by repeat (first | (with_reducible exact Below.refl _ _) | (with_reducible refine bl_alloc ?_ _) | (with_reducible refine Below.drew ?_) | (with_reducible refine bl_drewN ?_ _) | (with_reducible refine bl_set ?_ (by omega) _) | (with_reducible refine bl_step ?_ (by assumption))), hid1 (fy_new rfl)⟩ ?_
  rintro W4 ⟨B4, b4, HG⟩
  replace HF := hid1 (HF.out.keep b4)
  clear b4
  refine (HS.out _ (HL.out.on B4).pow).mono ?_
  rintro e w5 ⟨rfl, hb5⟩
  replace HF := hid1 (HF.out.keep hb5)
  replace HG := hid1 (HG.out.keep hb5)
  have B5 : Below w.heap.size w w5 := by repeat (first | (with_reducible exact Below.refl _ _) | (with_reducible refine bl_alloc ?_ _) | (with_reducible refine Below.drew ?_) | (with_reducible refine bl_drewN ?_ _) | (with_reducible refine bl_set ?_ (by omega) _) | (with_reducible refine bl_step ?_ (by assumption)))
  clear hb5 B4 B1 B2
  obtain ⟨g0, g1, _, _⟩ := HG.out
  obtain ⟨c0, c1, f0, f1⟩ := HF.out
  have z := lt_of_cell c0
  go_wp2
  simp [bodyPost, results, Tryd.results9, go_sem, *]
  repeat (first | (with_reducible exact Below.refl _ _) | (with_reducible refine bl_alloc ?_ _) | (with_reducible refine Below.drew ?_) | (with_reducible refine bl_drewN ?_ _) | (with_reducible refine bl_set ?_ (by omega) _) | (with_reducible refine bl_step ?_ (by assumption)))
set_option maxRecDepth 100000 in
theorem read_f_ok_ok_other (s A t : ByteArray) (n d : Int) (HC : Hid (∀ w : World, Calls Tryd.prog 20 #[.string s, .string ⟨#[47]⟩] w fun e w' => e = .returned (.tuple #[.string A, .string ⟨#[]⟩, .bool false]) ∧ Below w.heap.size w w')) (PA : Hid (∀ w : World, Calls Tryd.prog 21 #[.string A, .int .i64 10, .int .i64 64] w fun e w' => e = .returned (.tuple #[.int .i64 n, .nilIface]) ∧ Below w.heap.size w w')) (PB : Hid (∀ w : World, Calls Tryd.prog 21 #[.string ⟨#[49]⟩, .int .i64 10, .int .i64 64] w fun e w' => e = .returned (.tuple #[.int .i64 d, .nilIface]) ∧ Below w.heap.size w w')) (HS : Hid (∀ w : World, LaidP w → Calls Tryd.prog 8 #[fr n d] w fun e w' => e = .returned (.tuple #[.string t, .int .i64 0]) ∧ Below w.heap.size w w')) (ht : (t.toList == s.toList) = false) (w : World) (L : LaidB w) :
    Calls Tryd.prog 9 #[.string s] w fun e w' => e = .returned (.tuple #[fr 0 0, .int .i64 40]) ∧ Below w.heap.size w w' := by
  have HL := hid1 L
  clear L
  go_enter Tryd.func9, Tryd.ntmps9
  go_wp2_with fail
  refine (HC.out _).mono ?_
  rintro e w1 ⟨rfl, hb1⟩
  have HF : Hid (Fy w1 w.heap.size 0 0) := hid1 (Fy.keep (w := w.alloc _) (fy_new rfl) hb1)
  have B1 : Below w.heap.size w w1 := by repeat (first | (with_reducible exact Below.refl _ _) | (with_reducible refine bl_alloc ?_ _) | (with_reducible refine Below.drew ?_) | (with_reducible refine bl_drewN ?_ _) | (with_reducible refine bl_set ?_ (by omega) _) | (with_reducible refine bl_step ?_ (by assumption)))
  have HL1 := hid1 (HL.out.on B1)
  clear hb1
  go_wp2_with fail
  refine (PA.out _).mono ?_
  rintro e w2 ⟨rfl, hb2⟩
  replace HF := hid1 (HF.out.keep hb2)
  have B2 : Below w.heap.size w w2 := by repeat (first | (with_reducible exact Below.refl _ _) | (with_reducible refine bl_alloc ?_ _) | (with_reducible refine Below.drew ?_) | (with_reducible refine bl_drewN ?_ _) | (with_reducible refine bl_set ?_ (by omega) _) | (with_reducible refine bl_step ?_ (by assumption)))
  have HL2 := hid1 (HL.out.on B2)
  clear hb2
  go_wp2_with fail
  refine (PB.out _).mono ?_
  rintro e w3 ⟨rfl, hb3⟩
  replace HF := hid1 (HF.out.keep hb3)
  have B3 : Below w.heap.size w w3 := by repeat (first | (with_reducible exact Below.refl _ _) | (with_reducible refine bl_alloc ?_ _) | (with_reducible refine Below.drew ?_) | (with_reducible refine bl_drewN ?_ _) | (with_reducible refine bl_set ?_ (by omega) _) | (with_reducible refine bl_step ?_ (by assumption)))
  have HL3 := hid1 (HL.out.on B3)
  clear hb3
  go_wp2_with fail
  refine gen_calls (fun W' => Below w.heap.size w W' ∧ Below w3.heap.size w3 W' ∧ Hid (Fy W' w3.heap.size n d)) ⟨by repeat (first | (with_reducible exact Below.refl _ _) | (with_reducible refine bl_alloc ?_ _) | (with_reducible refine Below.drew ?_) | (with_reducible refine bl_drewN ?_ _) | (with_reducible refine bl_set ?_ (by omega) _) | (with_reducible refine bl_step ?_ (by assumption))), by repeat (first | (with_reducible exact Below.refl _ _) | (with_reducible refine bl_alloc ?_ _) | (with_reducible refine Below.drew ?_) | (with_reducible refine bl_drewN ?_ _) | (with_reducible refine bl_set ?_ (by omega) _) | (with_reducible refine bl_step ?_ (by assumption))), hid1 (fy_new rfl)⟩ ?_
  rintro W4 ⟨B4, b4, HG⟩
  replace HF := hid1 (HF.out.keep b4)
  clear b4
  refine (HS.out _ (HL.out.on B4).pow).mono ?_
  rintro e w5 ⟨rfl, hb5⟩
  replace HF := hid1 (HF.out.keep hb5)
  replace HG := hid1 (HG.out.keep hb5)
  have B5 : Below w.heap.size w w5 := by repeat (first | (with_reducible exact Below.refl _ _) | (with_reducible refine bl_alloc ?_ _) | (with_reducible refine Below.drew ?_) | (with_reducible refine bl_drewN ?_ _) | (with_reducible refine bl_set ?_ (by omega) _) | (with_reducible refine bl_step ?_ (by assumption)))
  clear hb5 B4 B1 B2
  obtain ⟨g0, g1, _, _⟩ := HG.out
  obtain ⟨c0, c1, f0, f1⟩ := HF.out
  have z := lt_of_cell c0
  go_wp2
  simp [bodyPost, results, Tryd.results9, go_sem, *]
  repeat (first | (with_reducible exact Below.refl _ _) | (with_reducible refine bl_alloc ?_ _) | (with_reducible refine Below.drew ?_) | (with_reducible refine bl_drewN ?_ _) | (with_reducible refine bl_set ?_ (by omega) _) | (with_reducible refine bl_step ?_ (by assumption)))
set_option maxRecDepth 100000 in
theorem read_f_ok_ok_good (s A : ByteArray) (n d : Int) (HC : Hid (∀ w : World, Calls Tryd.prog 20 #[.string s, .string ⟨#[47]⟩] w fun e w' => e = .returned (.tuple #[.string A, .string ⟨#[]⟩, .bool false]) ∧ Below w.heap.size w w')) (PA : Hid (∀ w : World, Calls Tryd.prog 21 #[.string A, .int .i64 10, .int .i64 64] w fun e w' => e = .returned (.tuple #[.int .i64 n, .nilIface]) ∧ Below w.heap.size w w')) (PB : Hid (∀ w : World, Calls Tryd.prog 21 #[.string ⟨#[49]⟩, .int .i64 10, .int .i64 64] w fun e w' => e = .returned (.tuple #[.int .i64 d, .nilIface]) ∧ Below w.heap.size w w')) (HS : Hid (∀ w : World, LaidP w → Calls Tryd.prog 8 #[fr n d] w fun e w' => e = .returned (.tuple #[.string s, .int .i64 0]) ∧ Below w.heap.size w w')) (w : World) (L : LaidB w) :
    Calls Tryd.prog 9 #[.string s] w fun e w' => e = .returned (.tuple #[fr n d, .int .i64 0]) ∧ Below w.heap.size w w' := by
  have HL := hid1 L
  clear L
  go_enter Tryd.func9, Tryd.ntmps9
  go_wp2_with fail
  refine (HC.out _).mono ?_
  rintro e w1 ⟨rfl, hb1⟩
  have HF : Hid (Fy w1 w.heap.size 0 0) := hid1 (Fy.keep (w := w.alloc _) (fy_new rfl) hb1)
  have B1 : Below w.heap.size w w1 := by repeat (first | (with_reducible exact Below.refl _ _) | (with_reducible refine bl_alloc ?_ _) | (with_reducible refine Below.drew ?_) | (with_reducible refine bl_drewN ?_ _) | (with_reducible refine bl_set ?_ (by omega) _) | (with_reducible refine bl_step ?_ (by assumption)))
  have HL1 := hid1 (HL.out.on B1)
  clear hb1
  go_wp2_with fail
  refine (PA.out _).mono ?_
  rintro e w2 ⟨rfl, hb2⟩
  replace HF := hid1 (HF.out.keep hb2)
  have B2 : Below w.heap.size w w2 := by repeat (first | (with_reducible exact Below.refl _ _) | (with_reducible refine bl_alloc ?_ _) | (with_reducible refine Below.drew ?_) | (with_reducible refine bl_drewN ?_ _) | (with_reducible refine bl_set ?_ (by omega) _) | (with_reducible refine bl_step ?_ (by assumption)))
  have HL2 := hid1 (HL.out.on B2)
  clear hb2
  go_wp2_with fail
  refine (PB.out _).mono ?_
  rintro e w3 ⟨rfl, hb3⟩
  replace HF := hid1 (HF.out.keep hb3)
  have B3 : Below w.heap.size w w3 := by repeat (first | (with_reducible exact Below.refl _ _) | (with_reducible refine bl_alloc ?_ _) | (with_reducible refine Below.drew ?_) | (with_reducible refine bl_drewN ?_ _) | (with_reducible refine bl_set ?_ (by omega) _) | (with_reducible refine bl_step ?_ (by assumption)))
  have HL3 := hid1 (HL.out.on B3)
  clear hb3
  go_wp2_with fail
  refine gen_calls (fun W' => Below w.heap.size w W' ∧ Below w3.heap.size w3 W' ∧ Hid (Fy W' w3.heap.size n d)) ⟨by repeat (first | (with_reducible exact Below.refl _ _) | (with_reducible refine bl_alloc ?_ _) | (with_reducible refine Below.drew ?_) | (with_reducible refine bl_drewN ?_ _) | (with_reducible refine bl_set ?_ (by omega) _) | (with_reducible refine bl_step ?_ (by assumption))), by repeat (first | (with_reducible exact Below.refl _ _) | (with_reducible refine bl_alloc ?_ _) | (with_reducible refine Below.drew ?_) | (with_reducible refine bl_drewN ?_ _) | (with_reducible refine bl_set ?_ (by omega) _) | (with_reducible refine bl_step ?_ (by assumption))), hid1 (fy_new rfl)⟩ ?_
  rintro W4 ⟨B4, b4, HG⟩
  replace HF := hid1 (HF.out.keep b4)
  clear b4
  refine (HS.out _ (HL.out.on B4).pow).mono ?_
  rintro e w5 ⟨rfl, hb5⟩
  replace HF := hid1 (HF.out.keep hb5)
  replace HG := hid1 (HG.out.keep hb5)
  have B5 : Below w.heap.size w w5 := by repeat (first | (with_reducible exact Below.refl _ _) | (with_reducible refine bl_alloc ?_ _) | (with_reducible refine Below.drew ?_) | (with_reducible refine bl_drewN ?_ _) | (with_reducible refine bl_set ?_ (by omega) _) | (with_reducible refine bl_step ?_ (by assumption)))
  clear hb5 B4 B1 B2
  obtain ⟨g0, g1, _, _⟩ := HG.out
  obtain ⟨c0, c1, f0, f1⟩ := HF.out
  have z := lt_of_cell c0
  go_wp2
  simp [bodyPost, results, Tryd.results9, go_sem, *]
  repeat (first | (with_reducible exact Below.refl _ _) | (with_reducible refine bl_alloc ?_ _) | (with_reducible refine Below.drew ?_) | (with_reducible refine bl_drewN ?_ _) | (with_reducible refine bl_set ?_ (by omega) _) | (with_reducible refine bl_step ?_ (by assumption)))
end Go.Proofs.YtboabgjgcnkelabDoor
/- READ: THE FRACTION WHOSE SHOW IT IS, OR NONE. -/
namespace Go.Proofs.YtboabgjgcnkelabDoor
open Go.RowKit Go.Shelf

theorem ba_eq {s : ByteArray} {l : List UInt8} (h : s.data.toList = l) : s = ⟨l.toArray⟩ := by
  apply ByteArray.ext
  apply Array.ext'
  simpa using h
theorem ba_ne {t s : ByteArray} {l : List UInt8} (ht : t = ⟨l.toArray⟩) (h : ¬ l = s.data.toList) : (t.toList == s.toList) = false := by
  rw [Lib.toList_data, Lib.toList_data, ht]
  simpa using h
theorem itoa_one : Lib.itoa 1 = [49] := by decide +kernel
theorem parse_one : Lib.parseIntB 64 (⟨#[49]⟩ : ByteArray).data.toList = .ok 1 := by decide +kernel
theorem fread_good (s : ByteArray) (hl : s.size ≤ 281474976710656) (n d : Int) (hf : Fr n d) (hs : s.data.toList = shL n d) (w : World) (L : LaidB w) :
    Calls Tryd.prog 9 #[.string s] w fun e w' => e = .returned (.tuple #[fr n d, .int .i64 0]) ∧ Below w.heap.size w w' := by
  have pn : Lib.parseIntB 64 (Lib.itoa n) = .ok n := parse_itoa hf.2.2.1 hf.2.2.2
  have pd : Lib.parseIntB 64 (Lib.itoa d) = .ok d := parse_itoa (by have := hf.1; omega) (by have := hf.2.1; omega)
  have HS := fshow_ok n d hf
  rw [← ba_eq hs] at HS
  by_cases hd : d = 1
  · subst hd
    have e : s.data.toList = Lib.itoa n := by rw [hs]; unfold shL; rw [if_pos rfl]
    have h47 : (47 : UInt8) ∉ s.data.toList := by rw [e]; exact itoa_stroke n
    exact read_f_ok_ok_good s s n 1 (hid1 (cut_no s h47)) (hid1 (parse_ok s hl n (by rw [e]; exact pn))) (hid1 (parse_ok _ (by decide) 1 parse_one)) (hid1 HS) w L
  · have e : s.data.toList = Lib.itoa n ++ 47 :: Lib.itoa d := by rw [hs]; unfold shL; rw [if_neg hd]
    have hz : s.size = (Lib.itoa n).length + 1 + (Lib.itoa d).length := by
      have : s.size = s.data.toList.length := rfl
      rw [this, e]; simp; omega
    have z1 : (⟨(Lib.itoa n).toArray⟩ : ByteArray).size = (Lib.itoa n).length := rfl
    have z2 : (⟨(Lib.itoa d).toArray⟩ : ByteArray).size = (Lib.itoa d).length := rfl
    exact read_t_ok_ok_good s ⟨(Lib.itoa n).toArray⟩ ⟨(Lib.itoa d).toArray⟩ n d (hid1 (cut_yes s _ _ e (itoa_stroke n) hl)) (hid1 (parse_ok _ (by omega) n pn)) (hid1 (parse_ok _ (by omega) d pd)) (hid1 HS) w L
theorem fread_bad (s : ByteArray) (hl : s.size ≤ 281474976710656) (h : ∀ n d, Fr n d → ¬ shL n d = s.data.toList) (w : World) (L : LaidB w) :
    Calls Tryd.prog 9 #[.string s] w fun e w' => e = .returned (.tuple #[fr 0 0, .int .i64 40]) ∧ Below w.heap.size w w' := by
  rcases index_cases 47 s.data.toList with ⟨_, h1⟩ | ⟨a, b, h1, h2, _⟩
  · have HC := hid1 (cut_no s h1)
    have P1 := hid1 (parse_ok ⟨#[49]⟩ (by decide) 1 parse_one)
    by_cases k : ∃ n, Lib.parseIntB 64 s.data.toList = .ok n
    · obtain ⟨n, k⟩ := k
      have PA := hid1 (parse_ok s hl n k)
      by_cases hf : Fr n 1
      · exact read_f_ok_ok_other s s _ n 1 HC PA P1 (hid1 (fshow_ok n 1 hf)) (ba_ne rfl (h n 1 hf)) w L
      · exact read_f_ok_ok_bad s s _ n 1 HC PA P1 (hid1 (fun w _ => fshow_no n 1 hf w)) w L
    · have PA := hid1 (parse_no s hl (fun v e => k ⟨v, e⟩))
      exact read_f_no_ok_x s s 1 HC PA P1 w L
  · have hz : s.size = a.length + 1 + b.length := by
      have : s.size = s.data.toList.length := rfl
      rw [this, h1]; simp; omega
    have z1 : (⟨a.toArray⟩ : ByteArray).size = a.length := rfl
    have z2 : (⟨b.toArray⟩ : ByteArray).size = b.length := rfl
    have HC := hid1 (cut_yes s a b h1 h2 hl)
    by_cases k : ∃ n, Lib.parseIntB 64 a = .ok n
    · obtain ⟨n, k⟩ := k
      have PA := hid1 (parse_ok ⟨a.toArray⟩ (by omega) n k)
      by_cases k2 : ∃ d, Lib.parseIntB 64 b = .ok d
      · obtain ⟨d, k2⟩ := k2
        have PB := hid1 (parse_ok ⟨b.toArray⟩ (by omega) d k2)
        by_cases hf : Fr n d
        · exact read_t_ok_ok_other s _ _ _ n d HC PA PB (hid1 (fshow_ok n d hf)) (ba_ne rfl (h n d hf)) w L
        · exact read_t_ok_ok_bad s _ _ _ n d HC PA PB (hid1 (fun w _ => fshow_no n d hf w)) w L
      · have PB := hid1 (parse_no ⟨b.toArray⟩ (by omega) (fun v e => k2 ⟨v, e⟩))
        exact read_t_ok_no_x s _ _ n HC PA PB w L
    · have PA := hid1 (parse_no ⟨a.toArray⟩ (by omega) (fun v e => k ⟨v, e⟩))
      by_cases k2 : ∃ d, Lib.parseIntB 64 b = .ok d
      · obtain ⟨d, k2⟩ := k2
        have PB := hid1 (parse_ok ⟨b.toArray⟩ (by omega) d k2)
        exact read_t_no_ok_x s _ _ d HC PA PB w L
      · have PB := hid1 (parse_no ⟨b.toArray⟩ (by omega) (fun v e => k2 ⟨v, e⟩))
        exact read_t_no_no_x s _ _ HC PA PB w L
end Go.Proofs.YtboabgjgcnkelabDoor
/- NORMS MADE OF FOUR FRACTIONS: what the regions that make them want; small. -/
namespace Go.Proofs.YtboabgjgcnkelabDoor
open Go.RowKit Go.Shelf
attribute [local go_sem ↓] Go.wp_at_zero Go.wp_at_succ

/-- A norm's cells, which may be written. -/
def Ny (w : World) (b : Nat) (gn gd bn bd mn md sn sd : Int) : Prop := Nm w b gn gd bn bd mn md sn sd ∧ ∀ o, w.frozen? ⟨b, o, none⟩ = false
theorem Ny.keep {w w' : World} {b : Nat} {gn gd bn bd mn md sn sd : Int} (h : Ny w b gn gd bn bd mn md sn sd) (hb : Below w.heap.size w w') : Ny w' b gn gd bn bd mn md sn sd :=
  ⟨h.1.keep hb, fun o => keepf hb (lt_of_cell h.1.1) (h.2 o)⟩
theorem ny_new {W : World} {t : TypeId} {g : Nat} {gn gd bn bd mn md sn sd : Int} (hg : W.heap.size = g) : Ny (W.alloc (.cells #[.int .i64 gn, .int .i64 gd, .int .i64 bn, .int .i64 bd, .int .i64 mn, .int .i64 md, .int .i64 sn, .int .i64 sd] t)) g gn gd bn bd mn md sn sd := by
  subst hg
  exact ⟨⟨by simp [go_sem], by simp [go_sem], by simp [go_sem], by simp [go_sem], by simp [go_sem], by simp [go_sem], by simp [go_sem], by simp [go_sem]⟩, fun o => by simp [go_sem]⟩
theorem ny_n0 {W w' : World} {t : TypeId} (hb : Below (W.alloc (.cells #[.int .i64 0, .int .i64 0, .int .i64 0, .int .i64 0, .int .i64 0, .int .i64 0, .int .i64 0, .int .i64 0] t)).heap.size (W.alloc (.cells #[.int .i64 0, .int .i64 0, .int .i64 0, .int .i64 0, .int .i64 0, .int .i64 0, .int .i64 0, .int .i64 0] t)) w') : Ny w' W.heap.size 0 0 0 0 0 0 0 0 := Ny.keep (ny_new rfl) hb
theorem ny_n1 {W w' : World} {t : TypeId} (hb : Below (W.drew.alloc (.cells #[.int .i64 0, .int .i64 0, .int .i64 0, .int .i64 0, .int .i64 0, .int .i64 0, .int .i64 0, .int .i64 0] t)).heap.size (W.drew.alloc (.cells #[.int .i64 0, .int .i64 0, .int .i64 0, .int .i64 0, .int .i64 0, .int .i64 0, .int .i64 0, .int .i64 0] t)) w') : Ny w' W.heap.size 0 0 0 0 0 0 0 0 := Ny.keep (ny_new (W := W.drew) rfl) hb
theorem ny_n2 {W w' : World} {t : TypeId} (hb : Below (W.alloc (.cells #[.int .i64 0, .int .i64 0, .int .i64 0, .int .i64 0, .int .i64 0, .int .i64 0, .int .i64 0, .int .i64 0] t)).drew.heap.size (W.alloc (.cells #[.int .i64 0, .int .i64 0, .int .i64 0, .int .i64 0, .int .i64 0, .int .i64 0, .int .i64 0, .int .i64 0] t)).drew w') : Ny w' W.heap.size 0 0 0 0 0 0 0 0 :=
  Ny.keep (Ny.keep (ny_new rfl) (Below.drew (Below.refl _ _))) hb
set_option maxRecDepth 100000 in
theorem ny_set {W : World} {g : Nat} {gn gd bn bd mn md sn sd : Int} (h : Ny W g 0 0 0 0 0 0 0 0) : Ny ((((((((W.setCell ⟨g, 0, none⟩ (.int .i64 gn)).setCell ⟨g, 1, none⟩ (.int .i64 gd)).setCell ⟨g, 2, none⟩ (.int .i64 bn)).setCell ⟨g, 3, none⟩ (.int .i64 bd)).setCell ⟨g, 4, none⟩ (.int .i64 mn)).setCell ⟨g, 5, none⟩ (.int .i64 md)).setCell ⟨g, 6, none⟩ (.int .i64 sn)).setCell ⟨g, 7, none⟩ (.int .i64 sd)) g gn gd bn bd mn md sn sd := by
  obtain ⟨⟨n0, n1, n2, n3, n4, n5, n6, n7⟩, nf⟩ := h
  have z := lt_of_cell n0
  exact ⟨⟨by simp [go_sem, *], by simp [go_sem, *], by simp [go_sem, *], by simp [go_sem, *], by simp [go_sem, *], by simp [go_sem, *], by simp [go_sem, *], by simp [go_sem, *]⟩, fun o => by simp [go_sem, *]⟩
theorem ny_set6 {W : World} {g : Nat} {gn gd bn bd mn md sn sd v : Int} (h : Ny W g gn gd bn bd mn md sn sd) : Ny (W.setCell ⟨g, 6, none⟩ (.int .i64 v)) g gn gd bn bd mn md v sd := by
  obtain ⟨⟨n0, n1, n2, n3, n4, n5, n6, n7⟩, nf⟩ := h
  have z := lt_of_cell n0
  exact ⟨⟨by simp [go_sem, *], by simp [go_sem, *], by simp [go_sem, *], by simp [go_sem, *], by simp [go_sem, *], by simp [go_sem, *], by simp [go_sem, *], by simp [go_sem, *]⟩, fun o => by simp [go_sem, *]⟩
theorem nm8 {W X : World} {b : Nat} {gn gd bn bd mn md sn sd : Int} (h : Nm W b gn gd bn bd mn md sn sd) (hb : Below W.heap.size W X) : X.cell? ⟨b, 0, none⟩ = some (.int .i64 gn) ∧ X.cell? ⟨b, 1, none⟩ = some (.int .i64 gd) ∧ X.cell? ⟨b, 2, none⟩ = some (.int .i64 bn) ∧ X.cell? ⟨b, 3, none⟩ = some (.int .i64 bd) ∧ X.cell? ⟨b, 4, none⟩ = some (.int .i64 mn) ∧ X.cell? ⟨b, 5, none⟩ = some (.int .i64 md) ∧ X.cell? ⟨b, 6, none⟩ = some (.int .i64 sn) ∧ X.cell? ⟨b, 7, none⟩ = some (.int .i64 sd) := h.keep hb
/-- A small fraction made of any. -/
def smN (n : Int) : Int := n.tmod 1000
def smD (d : Int) : Int := (if d.tmod 30 < 0 then -d.tmod 30 else d.tmod 30) + 1
theorem small_bd (n d : Int) : -999 ≤ smN n ∧ smN n ≤ 999 ∧ 1 ≤ smD d ∧ smD d ≤ 30 := by
  have h1 := tmod_rng n (k := 1000) (by decide)
  have h2 := tmod_rng d (k := 30) (by decide)
  unfold smN smD
  split <;> omega
end Go.Proofs.YtboabgjgcnkelabDoor
/- THE DOCUMENT'S PRODUCTS: times. -/
namespace Go.Proofs.YtboabgjgcnkelabDoor
open Go.RowKit Go.Shelf
attribute [local go_sem ↓] Go.wp_at_zero Go.wp_at_succ

def pr (f : Nat → Int) : Nat → Int
  | 0 => 1
  | k + 1 => pr f k * f k
/-- The two cells of a big number, and that they may be written. -/
def Bc (w : World) (b : Nat) (s : Bool) (ao : Option Addr) (l c : Nat) : Prop :=
  w.cell? ⟨b, 0, none⟩ = some (.bool s) ∧ w.cell? ⟨b, 1, none⟩ = some (.slice ao l c) ∧ w.frozen? ⟨b, 0, none⟩ = false ∧ w.frozen? ⟨b, 1, none⟩ = false
theorem Bc.keep {w w' : World} {b : Nat} {s : Bool} {ao : Option Addr} {l c : Nat} (h : Bc w b s ao l c) (hb : Below w.heap.size w w') : Bc w' b s ao l c := by
  have z := lt_of_cell h.1
  exact ⟨keepc hb h.1, keepc hb h.2.1, keepf hb z h.2.2.1, keepf hb z h.2.2.2⟩
set_option maxHeartbeats 1600000 in
set_option maxRecDepth 100000 in
theorem times_any4 (f : Nat → Int) (m g cap : Nat) (hm : m ≤ 4) (w : World) (hf : ∀ i, i < m → w.cell? ⟨g, i, none⟩ = some (.int .i64 (f i))) (hi : ∀ i, i < m → I64 (f i)) (hfB : ∀ i, i < m → ((f i).natAbs : Int) < 65536 ^ 16) (hp : ∀ k, k ≤ m → ((pr f k).natAbs : Int) < 65536 ^ 16) :
    Calls Tryd.prog 65 #[.slice (some ⟨g, 0, none⟩) m cap] w fun e w' => ∃ z, e = .returned z ∧ Bg w' z (pr f m) ∧ Below w.heap.size w w' := by
  have HF := hid1 hf
  have HI := hid1 hi
  have HQ := hid1 hfB
  have HP := hid1 hp
  clear hf hi hp hfB
  have i1 : I64 1 := by unfold I64; omega
  have HO := hid1 (rint_any 1 i1)
  clear i1
  go_enter Tryd.func65, Tryd.ntmps65
  go_wp2_with fail
  refine (HO.out _).mono ?_
  rintro e w1 ⟨z1, rfl, hz1, hb1⟩
  obtain ⟨s0, ao0, l0, c0, rfl⟩ := hz1.form
  have HZ := hid1 hz1
  clear hz1
  have HR : Hid (Bc w1 w.heap.size false none 0 0) := hid1 (Bc.keep (w := w.alloc _) ⟨by simp [go_sem], by simp [go_sem], by simp [go_sem], by simp [go_sem]⟩ hb1)
  have B1 : Below w.heap.size w w1 := by repeat (first | exact Below.refl _ _ | refine bl_alloc ?_ _ | refine Below.drew ?_ | refine bl_drewN ?_ _ | refine bl_set ?_ (by omega) _ | refine bl_step ?_ (by assumption))
  have z1 := lt_of_cell HR.out.1
  clear hb1
  go_wp2_with fail
  go_loopw [4] (fun i wr => ∃ (k : Nat) (s : Bool) (ao : Option Addr) (l c : Nat), k ≤ m ∧ i = .int .i64 k ∧ Hid (Bc wr w1.heap.size s ao l c) ∧ Hid (Bg wr (.agg #[.bool s, .slice ao l c]) (pr f k)) ∧ Hid (Bc wr w.heap.size false none 0 0) ∧ Below w.heap.size w wr) (fun i _ => m - (intOf i).toNat)
  case atStart =>
    refine ⟨0, s0, ao0, l0, c0, by omega, rfl, ?_, ?_, ?_, ?_⟩
    · exact hid1 ⟨by simp [go_sem], by simp [go_sem], by simp [go_sem], by simp [go_sem]⟩
    · exact hid1 (HZ.out.below (by repeat (first | exact Below.refl _ _ | refine bl_alloc ?_ _ | refine Below.drew ?_ | refine bl_drewN ?_ _ | refine bl_set ?_ (by omega) _ | refine bl_step ?_ (by assumption))))
    · exact hid1 (HR.out.keep (by repeat (first | exact Below.refl _ _ | refine bl_alloc ?_ _ | refine Below.drew ?_ | refine bl_drewN ?_ _ | refine bl_set ?_ (by omega) _ | refine bl_step ?_ (by assumption))))
    · repeat (first | exact Below.refl _ _ | refine bl_alloc ?_ _ | refine Below.drew ?_ | refine bl_drewN ?_ _ | refine bl_set ?_ (by omega) _ | refine bl_step ?_ (by assumption))
  case round =>
    obtain ⟨k, s, ao, l, c, hk, rfl, HC, HB, HR2, hB⟩ := hrel
    have nT : ¬ w.heap.size = w1.heap.size := by omega
    have nT' : ¬ w1.heap.size = w.heap.size := by omega
    by_cases hlt : k < m
    · have hlt' : (k : Int) < m := by omega
      have a0 := keepc hB (HF.out k hlt)
      obtain ⟨x0, x1, x2, x3⟩ := HC.out
      have zx := lt_of_cell x0
      go_wp2_with fail
      go_region_with (first
        | (go_at_call 24; refine (rint_any (f k) (HI.out k hlt) _).mono ?_; rintro e X1 ⟨i1, rfl, hi1, hbi⟩; obtain ⟨si, oi, li, ci, rfl⟩ := hi1.form; have HI1 := hid1 hi1; clear hi1; have x0 := keepc hbi x0; have x1 := keepc hbi x1; have BI : Hid (Below wr.heap.size wr X1) := hid1 (by repeat (first | exact Below.refl _ _ | refine bl_alloc ?_ _ | refine Below.drew ?_ | refine bl_drewN ?_ _ | refine bl_set ?_ (by omega) _ | refine bl_step ?_ (by assumption))))
        | (go_at_call 67; refine (rmul_any (pr f k) (f k) _ _ _ (HB.out.below BI.out) HI1.out (HP.out k hk) (HQ.out k hlt)).mono ?_; rintro e X2 ⟨i2, rfl, hi2, hbj⟩; obtain ⟨sj, oj, lj, cj, rfl⟩ := hi2.form; have HJ := hid1 hi2; clear hi2; have BJ : Hid (Below wr.heap.size wr X2) := hid1 (bl_step BI.out hbj); obtain ⟨x0, x1, x2, x3⟩ := HC.out.keep BJ.out; have zx := lt_of_cell x0))
      all_goals
        have bj := BJ.out
        have BX : Hid (Bg X2 (.agg #[.bool sj, .slice oj lj cj]) (pr f (k + 1))) := HJ
        obtain ⟨y0, y1, y2, y3⟩ := HR2.out.keep bj
        have zy := lt_of_cell y0
        go_wp2_with fail
        refine ⟨⟨k + 1, sj, oj, lj, cj, by omega, rfl, ?_, ?_, ?_, ?_⟩, by simp [intOf]; omega⟩
        · exact hid1 ⟨by simp [go_sem, *], by simp [go_sem, *], by simp [go_sem, *], by simp [go_sem, *]⟩
        · exact hid1 ((BX.out.set ⟨_, x0⟩).set ⟨sj, by simp [go_sem, x0]⟩)
        · exact hid1 ⟨by simp [go_sem, *], by simp [go_sem, *], by simp [go_sem, *], by simp [go_sem, *]⟩
        · repeat (first | (with_reducible exact Below.refl _ _) | (with_reducible refine bl_alloc ?_ _) | (with_reducible refine Below.drew ?_) | (with_reducible refine bl_drewN ?_ _) | (with_reducible refine bl_set ?_ (by omega) _) | (with_reducible refine bl_step ?_ (by assumption)))
    · have : k = m := by omega
      subst this
      obtain ⟨x0, x1, x2, x3⟩ := HC.out
      obtain ⟨y0, y1, y2, y3⟩ := HR2.out
      have zx := lt_of_cell x0
      have zy := lt_of_cell y0
      go_wp2
      simp [bodyPost, results, Tryd.results65, go_sem, y0, y1]
      exact big_ret HB.out hB (Nat.le_refl _) ⟨_, y0⟩ _ _
end Go.Proofs.YtboabgjgcnkelabDoor
/- THE DOCUMENT'S CHECK AND NORM. -/
namespace Go.Proofs.YtboabgjgcnkelabDoor
open Go.RowKit Go.Shelf
attribute [local go_sem ↓] Go.wp_at_zero Go.wp_at_succ

set_option maxRecDepth 100000 in
theorem r4check_any (n d : Int) (w : World) :
    Calls Tryd.prog 22 #[fr n d] w fun e w' => e = .returned (.int .i64 (chF n d)) ∧ Below w.heap.size w w' := by
  by_cases h1 : d < 1
  · rw [chF_no (fun h => by have := h.1; omega)]
    go_enter Tryd.func22, Tryd.ntmps22
    go_wp2
    go_ret
    exact ⟨rfl, bl_alloc (Below.refl _ _) _⟩
  · by_cases h2 : 1048576 < d
    · rw [chF_no (fun h => by have := h.2.1; omega)]
      go_enter Tryd.func22, Tryd.ntmps22
      go_wp2
      go_ret
      exact ⟨rfl, bl_alloc (Below.refl _ _) _⟩
    · by_cases h3 : n < -2147483647
      · rw [chF_no (fun h => by have := h.2.2.1; omega)]
        go_enter Tryd.func22, Tryd.ntmps22
        go_wp2
        go_ret
        exact ⟨rfl, bl_alloc (Below.refl _ _) _⟩
      · by_cases h4 : 2147483647 < n
        · rw [chF_no (fun h => by have := h.2.2.2; omega)]
          go_enter Tryd.func22, Tryd.ntmps22
          go_wp2
          go_ret
          exact ⟨rfl, bl_alloc (Below.refl _ _) _⟩
        · rw [chF_ok ⟨by omega, by omega, by omega, by omega⟩]
          go_enter Tryd.func22, Tryd.ntmps22
          go_wp2
          go_ret
          exact ⟨rfl, bl_alloc (Below.refl _ _) _⟩
theorem divides_any (d n : Int) (hd : 2 ≤ d) (hd2 : d ≤ 2147483647) (w : World) :
    Calls Tryd.prog 63 #[.int .i64 d, .int .i64 n] w fun e w' => e = .returned (.bool (decide (d ∣ n))) ∧ w' = w := by
  have e := tmod_dvd (n := n) (d := d)
  have t := tmod_rng n (k := d) (by omega)
  have d0 : ¬ d = 0 := by omega
  obtain ⟨b, eb⟩ : ∃ b, decide (d ∣ n) = b := ⟨_, rfl⟩
  rw [eb] at e ⊢
  clear eb
  obtain ⟨r, er⟩ : ∃ r, n.tmod d = r := ⟨_, rfl⟩
  rw [er] at e t
  obtain ⟨t1, t2⟩ := t
  go_enter Tryd.func63, Tryd.ntmps63
  go_wp2
  go_ret
  refine ⟨by first | rfl | (simp [*]; done) | (rw [← e]; rfl), rfl⟩
set_option maxRecDepth 100000 in
theorem r4norm_no0 (gn gd bn bd mn md sn sd : Int) (h0 : chF gn gd = 40) (w : World) :
    Calls Tryd.prog 45 #[nm gn gd bn bd mn md sn sd] w fun e w' => e = .returned (.int .i64 40) ∧ Below w.heap.size w w' := by
  go_enter Tryd.func45, Tryd.ntmps45
  go_wp2_with fail
  refine gen_calls (fun W' => Below w.heap.size w W' ∧ Hid (Nm W' w.heap.size gn gd bn bd mn md sn sd)) ⟨by repeat (first | (with_reducible exact Below.refl _ _) | (with_reducible refine bl_alloc ?_ _) | (with_reducible refine Below.drew ?_) | (with_reducible refine bl_drewN ?_ _) | (with_reducible refine bl_set ?_ (by omega) _) | (with_reducible refine bl_step ?_ (by assumption))), hid1 ⟨by simp [go_sem], by simp [go_sem], by simp [go_sem], by simp [go_sem], by simp [go_sem], by simp [go_sem], by simp [go_sem], by simp [go_sem]⟩⟩ ?_
  rintro W0 ⟨B0, HM⟩
  obtain ⟨m0, m1, m2, m3, m4, m5, m6, m7⟩ := HM.out
  refine (r4check_any gn gd _).mono ?_
  rintro e w1 ⟨rfl, hb1⟩
  rw [h0]
  replace HM := hid1 (HM.out.keep hb1)
  have B1 : Below w.heap.size w w1 := by repeat (first | (with_reducible exact Below.refl _ _) | (with_reducible refine bl_alloc ?_ _) | (with_reducible refine Below.drew ?_) | (with_reducible refine bl_drewN ?_ _) | (with_reducible refine bl_set ?_ (by omega) _) | (with_reducible refine bl_step ?_ (by assumption)))
  clear hb1 m0 m1 m2 m3 m4 m5 m6 m7
  obtain ⟨m0, m1, m2, m3, m4, m5, m6, m7⟩ := HM.out
  go_wp2
  go_ret
  exact ⟨rfl, by repeat (first | (with_reducible exact Below.refl _ _) | (with_reducible refine bl_alloc ?_ _) | (with_reducible refine Below.drew ?_) | (with_reducible refine bl_drewN ?_ _) | (with_reducible refine bl_set ?_ (by omega) _) | (with_reducible refine bl_step ?_ (by assumption)))⟩
set_option maxRecDepth 100000 in
theorem r4norm_no1 (gn gd bn bd mn md sn sd : Int) (h0 : chF gn gd = 0) (h1 : chF bn bd = 40) (w : World) :
    Calls Tryd.prog 45 #[nm gn gd bn bd mn md sn sd] w fun e w' => e = .returned (.int .i64 40) ∧ Below w.heap.size w w' := by
  go_enter Tryd.func45, Tryd.ntmps45
  go_wp2_with fail
  refine gen_calls (fun W' => Below w.heap.size w W' ∧ Hid (Nm W' w.heap.size gn gd bn bd mn md sn sd)) ⟨by repeat (first | (with_reducible exact Below.refl _ _) | (with_reducible refine bl_alloc ?_ _) | (with_reducible refine Below.drew ?_) | (with_reducible refine bl_drewN ?_ _) | (with_reducible refine bl_set ?_ (by omega) _) | (with_reducible refine bl_step ?_ (by assumption))), hid1 ⟨by simp [go_sem], by simp [go_sem], by simp [go_sem], by simp [go_sem], by simp [go_sem], by simp [go_sem], by simp [go_sem], by simp [go_sem]⟩⟩ ?_
  rintro W0 ⟨B0, HM⟩
  obtain ⟨m0, m1, m2, m3, m4, m5, m6, m7⟩ := HM.out
  refine (r4check_any gn gd _).mono ?_
  rintro e w1 ⟨rfl, hb1⟩
  rw [h0]
  replace HM := hid1 (HM.out.keep hb1)
  have B1 : Below w.heap.size w w1 := by repeat (first | (with_reducible exact Below.refl _ _) | (with_reducible refine bl_alloc ?_ _) | (with_reducible refine Below.drew ?_) | (with_reducible refine bl_drewN ?_ _) | (with_reducible refine bl_set ?_ (by omega) _) | (with_reducible refine bl_step ?_ (by assumption)))
  clear hb1 m0 m1 m2 m3 m4 m5 m6 m7
  obtain ⟨m0, m1, m2, m3, m4, m5, m6, m7⟩ := HM.out
  go_wp2_with fail
  refine (r4check_any bn bd _).mono ?_
  rintro e w2 ⟨rfl, hb2⟩
  rw [h1]
  replace HM := hid1 (HM.out.keep hb2)
  have B2 : Below w.heap.size w w2 := by repeat (first | (with_reducible exact Below.refl _ _) | (with_reducible refine bl_alloc ?_ _) | (with_reducible refine Below.drew ?_) | (with_reducible refine bl_drewN ?_ _) | (with_reducible refine bl_set ?_ (by omega) _) | (with_reducible refine bl_step ?_ (by assumption)))
  clear hb2 B1 m0 m1 m2 m3 m4 m5 m6 m7
  obtain ⟨m0, m1, m2, m3, m4, m5, m6, m7⟩ := HM.out
  go_wp2
  go_ret
  exact ⟨rfl, by repeat (first | (with_reducible exact Below.refl _ _) | (with_reducible refine bl_alloc ?_ _) | (with_reducible refine Below.drew ?_) | (with_reducible refine bl_drewN ?_ _) | (with_reducible refine bl_set ?_ (by omega) _) | (with_reducible refine bl_step ?_ (by assumption)))⟩
set_option maxRecDepth 100000 in
theorem r4norm_no2 (gn gd bn bd mn md sn sd : Int) (h0 : chF gn gd = 0) (h1 : chF bn bd = 0) (h2 : chF mn md = 40) (w : World) :
    Calls Tryd.prog 45 #[nm gn gd bn bd mn md sn sd] w fun e w' => e = .returned (.int .i64 40) ∧ Below w.heap.size w w' := by
  go_enter Tryd.func45, Tryd.ntmps45
  go_wp2_with fail
  refine gen_calls (fun W' => Below w.heap.size w W' ∧ Hid (Nm W' w.heap.size gn gd bn bd mn md sn sd)) ⟨by repeat (first | (with_reducible exact Below.refl _ _) | (with_reducible refine bl_alloc ?_ _) | (with_reducible refine Below.drew ?_) | (with_reducible refine bl_drewN ?_ _) | (with_reducible refine bl_set ?_ (by omega) _) | (with_reducible refine bl_step ?_ (by assumption))), hid1 ⟨by simp [go_sem], by simp [go_sem], by simp [go_sem], by simp [go_sem], by simp [go_sem], by simp [go_sem], by simp [go_sem], by simp [go_sem]⟩⟩ ?_
  rintro W0 ⟨B0, HM⟩
  obtain ⟨m0, m1, m2, m3, m4, m5, m6, m7⟩ := HM.out
  refine (r4check_any gn gd _).mono ?_
  rintro e w1 ⟨rfl, hb1⟩
  rw [h0]
  replace HM := hid1 (HM.out.keep hb1)
  have B1 : Below w.heap.size w w1 := by repeat (first | (with_reducible exact Below.refl _ _) | (with_reducible refine bl_alloc ?_ _) | (with_reducible refine Below.drew ?_) | (with_reducible refine bl_drewN ?_ _) | (with_reducible refine bl_set ?_ (by omega) _) | (with_reducible refine bl_step ?_ (by assumption)))
  clear hb1 m0 m1 m2 m3 m4 m5 m6 m7
  obtain ⟨m0, m1, m2, m3, m4, m5, m6, m7⟩ := HM.out
  go_wp2_with fail
  refine (r4check_any bn bd _).mono ?_
  rintro e w2 ⟨rfl, hb2⟩
  rw [h1]
  replace HM := hid1 (HM.out.keep hb2)
  have B2 : Below w.heap.size w w2 := by repeat (first | (with_reducible exact Below.refl _ _) | (with_reducible refine bl_alloc ?_ _) | (with_reducible refine Below.drew ?_) | (with_reducible refine bl_drewN ?_ _) | (with_reducible refine bl_set ?_ (by omega) _) | (with_reducible refine bl_step ?_ (by assumption)))
  clear hb2 B1 m0 m1 m2 m3 m4 m5 m6 m7
  obtain ⟨m0, m1, m2, m3, m4, m5, m6, m7⟩ := HM.out
  go_wp2_with fail
  refine (r4check_any mn md _).mono ?_
  rintro e w3 ⟨rfl, hb3⟩
  rw [h2]
  replace HM := hid1 (HM.out.keep hb3)
  have B3 : Below w.heap.size w w3 := by repeat (first | (with_reducible exact Below.refl _ _) | (with_reducible refine bl_alloc ?_ _) | (with_reducible refine Below.drew ?_) | (with_reducible refine bl_drewN ?_ _) | (with_reducible refine bl_set ?_ (by omega) _) | (with_reducible refine bl_step ?_ (by assumption)))
  clear hb3 B2 m0 m1 m2 m3 m4 m5 m6 m7
  obtain ⟨m0, m1, m2, m3, m4, m5, m6, m7⟩ := HM.out
  go_wp2
  go_ret
  exact ⟨rfl, by repeat (first | (with_reducible exact Below.refl _ _) | (with_reducible refine bl_alloc ?_ _) | (with_reducible refine Below.drew ?_) | (with_reducible refine bl_drewN ?_ _) | (with_reducible refine bl_set ?_ (by omega) _) | (with_reducible refine bl_step ?_ (by assumption)))⟩
set_option maxRecDepth 100000 in
theorem r4norm_no3 (gn gd bn bd mn md sn sd : Int) (h0 : chF gn gd = 0) (h1 : chF bn bd = 0) (h2 : chF mn md = 0) (h3 : chF sn sd = 40) (w : World) :
    Calls Tryd.prog 45 #[nm gn gd bn bd mn md sn sd] w fun e w' => e = .returned (.int .i64 40) ∧ Below w.heap.size w w' := by
  go_enter Tryd.func45, Tryd.ntmps45
  go_wp2_with fail
  refine gen_calls (fun W' => Below w.heap.size w W' ∧ Hid (Nm W' w.heap.size gn gd bn bd mn md sn sd)) ⟨by repeat (first | (with_reducible exact Below.refl _ _) | (with_reducible refine bl_alloc ?_ _) | (with_reducible refine Below.drew ?_) | (with_reducible refine bl_drewN ?_ _) | (with_reducible refine bl_set ?_ (by omega) _) | (with_reducible refine bl_step ?_ (by assumption))), hid1 ⟨by simp [go_sem], by simp [go_sem], by simp [go_sem], by simp [go_sem], by simp [go_sem], by simp [go_sem], by simp [go_sem], by simp [go_sem]⟩⟩ ?_
  rintro W0 ⟨B0, HM⟩
  obtain ⟨m0, m1, m2, m3, m4, m5, m6, m7⟩ := HM.out
  refine (r4check_any gn gd _).mono ?_
  rintro e w1 ⟨rfl, hb1⟩
  rw [h0]
  replace HM := hid1 (HM.out.keep hb1)
  have B1 : Below w.heap.size w w1 := by repeat (first | (with_reducible exact Below.refl _ _) | (with_reducible refine bl_alloc ?_ _) | (with_reducible refine Below.drew ?_) | (with_reducible refine bl_drewN ?_ _) | (with_reducible refine bl_set ?_ (by omega) _) | (with_reducible refine bl_step ?_ (by assumption)))
  clear hb1 m0 m1 m2 m3 m4 m5 m6 m7
  obtain ⟨m0, m1, m2, m3, m4, m5, m6, m7⟩ := HM.out
  go_wp2_with fail
  refine (r4check_any bn bd _).mono ?_
  rintro e w2 ⟨rfl, hb2⟩
  rw [h1]
  replace HM := hid1 (HM.out.keep hb2)
  have B2 : Below w.heap.size w w2 := by repeat (first | (with_reducible exact Below.refl _ _) | (with_reducible refine bl_alloc ?_ _) | (with_reducible refine Below.drew ?_) | (with_reducible refine bl_drewN ?_ _) | (with_reducible refine bl_set ?_ (by omega) _) | (with_reducible refine bl_step ?_ (by assumption)))
  clear hb2 B1 m0 m1 m2 m3 m4 m5 m6 m7
  obtain ⟨m0, m1, m2, m3, m4, m5, m6, m7⟩ := HM.out
  go_wp2_with fail
  refine (r4check_any mn md _).mono ?_
  rintro e w3 ⟨rfl, hb3⟩
  rw [h2]
  replace HM := hid1 (HM.out.keep hb3)
  have B3 : Below w.heap.size w w3 := by repeat (first | (with_reducible exact Below.refl _ _) | (with_reducible refine bl_alloc ?_ _) | (with_reducible refine Below.drew ?_) | (with_reducible refine bl_drewN ?_ _) | (with_reducible refine bl_set ?_ (by omega) _) | (with_reducible refine bl_step ?_ (by assumption)))
  clear hb3 B2 m0 m1 m2 m3 m4 m5 m6 m7
  obtain ⟨m0, m1, m2, m3, m4, m5, m6, m7⟩ := HM.out
  go_wp2_with fail
  refine (r4check_any sn sd _).mono ?_
  rintro e w4 ⟨rfl, hb4⟩
  rw [h3]
  replace HM := hid1 (HM.out.keep hb4)
  have B4 : Below w.heap.size w w4 := by repeat (first | (with_reducible exact Below.refl _ _) | (with_reducible refine bl_alloc ?_ _) | (with_reducible refine Below.drew ?_) | (with_reducible refine bl_drewN ?_ _) | (with_reducible refine bl_set ?_ (by omega) _) | (with_reducible refine bl_step ?_ (by assumption)))
  clear hb4 B3 m0 m1 m2 m3 m4 m5 m6 m7
  obtain ⟨m0, m1, m2, m3, m4, m5, m6, m7⟩ := HM.out
  go_wp2
  go_ret
  exact ⟨rfl, by repeat (first | (with_reducible exact Below.refl _ _) | (with_reducible refine bl_alloc ?_ _) | (with_reducible refine Below.drew ?_) | (with_reducible refine bl_drewN ?_ _) | (with_reducible refine bl_set ?_ (by omega) _) | (with_reducible refine bl_step ?_ (by assumption)))⟩
set_option maxRecDepth 100000 in
theorem r4norm_small (gn gd bn bd mn md sn sd : Int) (h0 : chF gn gd = 0) (h1 : chF bn bd = 0) (h2 : chF mn md = 0) (h3 : chF sn sd = 0) (hs : sn < 1) (w : World) :
    Calls Tryd.prog 45 #[nm gn gd bn bd mn md sn sd] w fun e w' => e = .returned (.int .i64 53) ∧ Below w.heap.size w w' := by
  go_enter Tryd.func45, Tryd.ntmps45
  go_wp2_with fail
  refine gen_calls (fun W' => Below w.heap.size w W' ∧ Hid (Nm W' w.heap.size gn gd bn bd mn md sn sd)) ⟨by repeat (first | (with_reducible exact Below.refl _ _) | (with_reducible refine bl_alloc ?_ _) | (with_reducible refine Below.drew ?_) | (with_reducible refine bl_drewN ?_ _) | (with_reducible refine bl_set ?_ (by omega) _) | (with_reducible refine bl_step ?_ (by assumption))), hid1 ⟨by simp [go_sem], by simp [go_sem], by simp [go_sem], by simp [go_sem], by simp [go_sem], by simp [go_sem], by simp [go_sem], by simp [go_sem]⟩⟩ ?_
  rintro W0 ⟨B0, HM⟩
  obtain ⟨m0, m1, m2, m3, m4, m5, m6, m7⟩ := HM.out
  refine (r4check_any gn gd _).mono ?_
  rintro e w1 ⟨rfl, hb1⟩
  rw [h0]
  replace HM := hid1 (HM.out.keep hb1)
  have B1 : Below w.heap.size w w1 := by repeat (first | (with_reducible exact Below.refl _ _) | (with_reducible refine bl_alloc ?_ _) | (with_reducible refine Below.drew ?_) | (with_reducible refine bl_drewN ?_ _) | (with_reducible refine bl_set ?_ (by omega) _) | (with_reducible refine bl_step ?_ (by assumption)))
  clear hb1 m0 m1 m2 m3 m4 m5 m6 m7
  obtain ⟨m0, m1, m2, m3, m4, m5, m6, m7⟩ := HM.out
  go_wp2_with fail
  refine (r4check_any bn bd _).mono ?_
  rintro e w2 ⟨rfl, hb2⟩
  rw [h1]
  replace HM := hid1 (HM.out.keep hb2)
  have B2 : Below w.heap.size w w2 := by repeat (first | (with_reducible exact Below.refl _ _) | (with_reducible refine bl_alloc ?_ _) | (with_reducible refine Below.drew ?_) | (with_reducible refine bl_drewN ?_ _) | (with_reducible refine bl_set ?_ (by omega) _) | (with_reducible refine bl_step ?_ (by assumption)))
  clear hb2 B1 m0 m1 m2 m3 m4 m5 m6 m7
  obtain ⟨m0, m1, m2, m3, m4, m5, m6, m7⟩ := HM.out
  go_wp2_with fail
  refine (r4check_any mn md _).mono ?_
  rintro e w3 ⟨rfl, hb3⟩
  rw [h2]
  replace HM := hid1 (HM.out.keep hb3)
  have B3 : Below w.heap.size w w3 := by repeat (first | (with_reducible exact Below.refl _ _) | (with_reducible refine bl_alloc ?_ _) | (with_reducible refine Below.drew ?_) | (with_reducible refine bl_drewN ?_ _) | (with_reducible refine bl_set ?_ (by omega) _) | (with_reducible refine bl_step ?_ (by assumption)))
  clear hb3 B2 m0 m1 m2 m3 m4 m5 m6 m7
  obtain ⟨m0, m1, m2, m3, m4, m5, m6, m7⟩ := HM.out
  go_wp2_with fail
  refine (r4check_any sn sd _).mono ?_
  rintro e w4 ⟨rfl, hb4⟩
  rw [h3]
  replace HM := hid1 (HM.out.keep hb4)
  have B4 : Below w.heap.size w w4 := by repeat (first | (with_reducible exact Below.refl _ _) | (with_reducible refine bl_alloc ?_ _) | (with_reducible refine Below.drew ?_) | (with_reducible refine bl_drewN ?_ _) | (with_reducible refine bl_set ?_ (by omega) _) | (with_reducible refine bl_step ?_ (by assumption)))
  clear hb4 B3 m0 m1 m2 m3 m4 m5 m6 m7
  obtain ⟨m0, m1, m2, m3, m4, m5, m6, m7⟩ := HM.out
  go_wp2
  go_ret
  exact ⟨rfl, by repeat (first | (with_reducible exact Below.refl _ _) | (with_reducible refine bl_alloc ?_ _) | (with_reducible refine Below.drew ?_) | (with_reducible refine bl_drewN ?_ _) | (with_reducible refine bl_set ?_ (by omega) _) | (with_reducible refine bl_step ?_ (by assumption)))⟩
set_option maxRecDepth 100000 in
theorem r4norm_ok (gn gd bn bd mn md sn sd : Int) (h0 : chF gn gd = 0) (h1 : chF bn bd = 0) (h2 : chF mn md = 0) (h3 : chF sn sd = 0) (hs : ¬ sn < 1) (w : World) :
    Calls Tryd.prog 45 #[nm gn gd bn bd mn md sn sd] w fun e w' => e = .returned (.int .i64 0) ∧ Below w.heap.size w w' := by
  go_enter Tryd.func45, Tryd.ntmps45
  go_wp2_with fail
  refine gen_calls (fun W' => Below w.heap.size w W' ∧ Hid (Nm W' w.heap.size gn gd bn bd mn md sn sd)) ⟨by repeat (first | (with_reducible exact Below.refl _ _) | (with_reducible refine bl_alloc ?_ _) | (with_reducible refine Below.drew ?_) | (with_reducible refine bl_drewN ?_ _) | (with_reducible refine bl_set ?_ (by omega) _) | (with_reducible refine bl_step ?_ (by assumption))), hid1 ⟨by simp [go_sem], by simp [go_sem], by simp [go_sem], by simp [go_sem], by simp [go_sem], by simp [go_sem], by simp [go_sem], by simp [go_sem]⟩⟩ ?_
  rintro W0 ⟨B0, HM⟩
  obtain ⟨m0, m1, m2, m3, m4, m5, m6, m7⟩ := HM.out
  refine (r4check_any gn gd _).mono ?_
  rintro e w1 ⟨rfl, hb1⟩
  rw [h0]
  replace HM := hid1 (HM.out.keep hb1)
  have B1 : Below w.heap.size w w1 := by repeat (first | (with_reducible exact Below.refl _ _) | (with_reducible refine bl_alloc ?_ _) | (with_reducible refine Below.drew ?_) | (with_reducible refine bl_drewN ?_ _) | (with_reducible refine bl_set ?_ (by omega) _) | (with_reducible refine bl_step ?_ (by assumption)))
  clear hb1 m0 m1 m2 m3 m4 m5 m6 m7
  obtain ⟨m0, m1, m2, m3, m4, m5, m6, m7⟩ := HM.out
  go_wp2_with fail
  refine (r4check_any bn bd _).mono ?_
  rintro e w2 ⟨rfl, hb2⟩
  rw [h1]
  replace HM := hid1 (HM.out.keep hb2)
  have B2 : Below w.heap.size w w2 := by repeat (first | (with_reducible exact Below.refl _ _) | (with_reducible refine bl_alloc ?_ _) | (with_reducible refine Below.drew ?_) | (with_reducible refine bl_drewN ?_ _) | (with_reducible refine bl_set ?_ (by omega) _) | (with_reducible refine bl_step ?_ (by assumption)))
  clear hb2 B1 m0 m1 m2 m3 m4 m5 m6 m7
  obtain ⟨m0, m1, m2, m3, m4, m5, m6, m7⟩ := HM.out
  go_wp2_with fail
  refine (r4check_any mn md _).mono ?_
  rintro e w3 ⟨rfl, hb3⟩
  rw [h2]
  replace HM := hid1 (HM.out.keep hb3)
  have B3 : Below w.heap.size w w3 := by repeat (first | (with_reducible exact Below.refl _ _) | (with_reducible refine bl_alloc ?_ _) | (with_reducible refine Below.drew ?_) | (with_reducible refine bl_drewN ?_ _) | (with_reducible refine bl_set ?_ (by omega) _) | (with_reducible refine bl_step ?_ (by assumption)))
  clear hb3 B2 m0 m1 m2 m3 m4 m5 m6 m7
  obtain ⟨m0, m1, m2, m3, m4, m5, m6, m7⟩ := HM.out
  go_wp2_with fail
  refine (r4check_any sn sd _).mono ?_
  rintro e w4 ⟨rfl, hb4⟩
  rw [h3]
  replace HM := hid1 (HM.out.keep hb4)
  have B4 : Below w.heap.size w w4 := by repeat (first | (with_reducible exact Below.refl _ _) | (with_reducible refine bl_alloc ?_ _) | (with_reducible refine Below.drew ?_) | (with_reducible refine bl_drewN ?_ _) | (with_reducible refine bl_set ?_ (by omega) _) | (with_reducible refine bl_step ?_ (by assumption)))
  clear hb4 B3 m0 m1 m2 m3 m4 m5 m6 m7
  obtain ⟨m0, m1, m2, m3, m4, m5, m6, m7⟩ := HM.out
  go_wp2
  go_ret
  exact ⟨rfl, by repeat (first | (with_reducible exact Below.refl _ _) | (with_reducible refine bl_alloc ?_ _) | (with_reducible refine Below.drew ?_) | (with_reducible refine bl_drewN ?_ _) | (with_reducible refine bl_set ?_ (by omega) _) | (with_reducible refine bl_step ?_ (by assumption)))⟩
theorem r4norm_any (gn gd bn bd mn md sn sd : Int) (w : World) :
    Calls Tryd.prog 45 #[nm gn gd bn bd mn md sn sd] w fun e w' => e = .returned (.int .i64 (noE gn gd bn bd mn md sn sd)) ∧ Below w.heap.size w w' := by
  unfold noE
  by_cases h0 : Fr gn gd
  · by_cases h1 : Fr bn bd
    · by_cases h2 : Fr mn md
      · by_cases h3 : Fr sn sd
        · rw [if_pos ⟨h0, h1, h2, h3⟩]
          by_cases hs : sn < 1
          · rw [if_pos hs]; exact r4norm_small _ _ _ _ _ _ _ _ (chF_ok h0) (chF_ok h1) (chF_ok h2) (chF_ok h3) hs w
          · rw [if_neg hs]; exact r4norm_ok _ _ _ _ _ _ _ _ (chF_ok h0) (chF_ok h1) (chF_ok h2) (chF_ok h3) hs w
        · rw [if_neg (fun k => h3 k.2.2.2)]; exact r4norm_no3 _ _ _ _ _ _ _ _ (chF_ok h0) (chF_ok h1) (chF_ok h2) (chF_no h3) w
      · rw [if_neg (fun k => h2 k.2.2.1)]; exact r4norm_no2 _ _ _ _ _ _ _ _ (chF_ok h0) (chF_ok h1) (chF_no h2) w
    · rw [if_neg (fun k => h1 k.2.1)]; exact r4norm_no1 _ _ _ _ _ _ _ _ (chF_ok h0) (chF_no h1) w
  · rw [if_neg (fun k => h0 k.1)]; exact r4norm_no0 _ _ _ _ _ _ _ _ (chF_no h0) w
end Go.Proofs.YtboabgjgcnkelabDoor
/- THE DOCUMENT'S PLUS: what its regions want. -/
namespace Go.Proofs.YtboabgjgcnkelabDoor
open Go.RowKit Go.Shelf
attribute [local go_sem ↓] Go.wp_at_zero Go.wp_at_succ

def fn2 (a b : Int) : Nat → Int | 0 => a | _ => b
def fn3 (a b c : Int) : Nat → Int | 0 => a | 1 => b | _ => c
def fn4 (a b c d : Int) : Nat → Int | 0 => a | 1 => b | 2 => c | _ => d
theorem pow16 : (65536 : Int) ^ 16 = 115792089237316195423570985008687907853269984665640564039457584007913129639936 := by decide
theorem lt16 {n : Int} (h : -10000000000000000000000000000000000000 ≤ n ∧ n ≤ 10000000000000000000000000000000000000) : (n.natAbs : Int) < 65536 ^ 16 := by rw [pow16]; omega
theorem le1640 : (65536 : Int) ^ 16 ≤ 65536 ^ 40 := by decide +kernel
theorem lt40 {n : Int} (h : -10000000000000000000000000000000000000 ≤ n ∧ n ≤ 10000000000000000000000000000000000000) : (n.natAbs : Int) < 65536 ^ 40 := Int.lt_of_lt_of_le (lt16 h) le1640
def Md (n : Int) : Prop := -10000000000000000000000000000000000000 ≤ n ∧ n ≤ 10000000000000000000000000000000000000
theorem i64_md {n : Int} (h : I64 n) : Md n := by unfold I64 at h; unfold Md; omega
theorem times2 (a b : Int) (ha : I64 a) (hb : I64 b) (hab : Md (a * b)) (w : World) (g cap : Nat) (h0 : w.cell? ⟨g, 0, none⟩ = some (.int .i64 a)) (h1 : w.cell? ⟨g, 1, none⟩ = some (.int .i64 b)) :
    Calls Tryd.prog 65 #[.slice (some ⟨g, 0, none⟩) 2 cap] w fun e w' => ∃ z, e = .returned z ∧ Bg w' z (a * b) ∧ Below w.heap.size w w' := by
  have e1 : pr (fn2 a b) 1 = a := Int.one_mul a
  have e2 : pr (fn2 a b) 2 = a * b := by show pr (fn2 a b) 1 * b = a * b; rw [e1]
  rw [← e2]
  refine times_any4 (fn2 a b) 2 g cap (by decide) w (fun i hi => ?_) (fun i hi => ?_) (fun i hi => ?_) (fun k hk => ?_)
  · match i, hi with
    | 0, _ => exact h0
    | 1, _ => exact h1
  · match i, hi with
    | 0, _ => exact ha
    | 1, _ => exact hb
  · match i, hi with
    | 0, _ => exact lt16 (i64_md ha)
    | 1, _ => exact lt16 (i64_md hb)
  · match k, hk with
    | 0, _ => exact lt16 ⟨by show _ ≤ (1 : Int); omega, by show (1 : Int) ≤ _; omega⟩
    | 1, _ => rw [e1]; exact lt16 (i64_md ha)
    | 2, _ => rw [e2]; exact lt16 hab
theorem times3 (a b c : Int) (ha : I64 a) (hb : I64 b) (hc : I64 c) (hab : Md (a * b)) (habc : Md (a * b * c)) (w : World) (g cap : Nat) (h0 : w.cell? ⟨g, 0, none⟩ = some (.int .i64 a)) (h1 : w.cell? ⟨g, 1, none⟩ = some (.int .i64 b)) (h2 : w.cell? ⟨g, 2, none⟩ = some (.int .i64 c)) :
    Calls Tryd.prog 65 #[.slice (some ⟨g, 0, none⟩) 3 cap] w fun e w' => ∃ z, e = .returned z ∧ Bg w' z (a * b * c) ∧ Below w.heap.size w w' := by
  have e1 : pr (fn3 a b c) 1 = a := Int.one_mul a
  have e2 : pr (fn3 a b c) 2 = a * b := by show pr (fn3 a b c) 1 * b = a * b; rw [e1]
  have e3 : pr (fn3 a b c) 3 = a * b * c := by show pr (fn3 a b c) 2 * c = a * b * c; rw [e2]
  rw [← e3]
  refine times_any4 (fn3 a b c) 3 g cap (by decide) w (fun i hi => ?_) (fun i hi => ?_) (fun i hi => ?_) (fun k hk => ?_)
  · match i, hi with
    | 0, _ => exact h0
    | 1, _ => exact h1
    | 2, _ => exact h2
  · match i, hi with
    | 0, _ => exact ha
    | 1, _ => exact hb
    | 2, _ => exact hc
  · match i, hi with
    | 0, _ => exact lt16 (i64_md ha)
    | 1, _ => exact lt16 (i64_md hb)
    | 2, _ => exact lt16 (i64_md hc)
  · match k, hk with
    | 0, _ => exact lt16 ⟨by show _ ≤ (1 : Int); omega, by show (1 : Int) ≤ _; omega⟩
    | 1, _ => rw [e1]; exact lt16 (i64_md ha)
    | 2, _ => rw [e2]; exact lt16 hab
    | 3, _ => rw [e3]; exact lt16 habc
theorem times4 (a b c d : Int) (ha : I64 a) (hb : I64 b) (hc : I64 c) (hd : I64 d) (hab : Md (a * b)) (habc : Md (a * b * c)) (habcd : Md (a * b * c * d)) (w : World) (g cap : Nat) (h0 : w.cell? ⟨g, 0, none⟩ = some (.int .i64 a)) (h1 : w.cell? ⟨g, 1, none⟩ = some (.int .i64 b)) (h2 : w.cell? ⟨g, 2, none⟩ = some (.int .i64 c)) (h3 : w.cell? ⟨g, 3, none⟩ = some (.int .i64 d)) :
    Calls Tryd.prog 65 #[.slice (some ⟨g, 0, none⟩) 4 cap] w fun e w' => ∃ z, e = .returned z ∧ Bg w' z (a * b * c * d) ∧ Below w.heap.size w w' := by
  have e1 : pr (fn4 a b c d) 1 = a := Int.one_mul a
  have e2 : pr (fn4 a b c d) 2 = a * b := by show pr (fn4 a b c d) 1 * b = a * b; rw [e1]
  have e3 : pr (fn4 a b c d) 3 = a * b * c := by show pr (fn4 a b c d) 2 * c = a * b * c; rw [e2]
  have e4 : pr (fn4 a b c d) 4 = a * b * c * d := by show pr (fn4 a b c d) 3 * d = a * b * c * d; rw [e3]
  rw [← e4]
  refine times_any4 (fn4 a b c d) 4 g cap (by decide) w (fun i hi => ?_) (fun i hi => ?_) (fun i hi => ?_) (fun k hk => ?_)
  · match i, hi with
    | 0, _ => exact h0
    | 1, _ => exact h1
    | 2, _ => exact h2
    | 3, _ => exact h3
  · match i, hi with
    | 0, _ => exact ha
    | 1, _ => exact hb
    | 2, _ => exact hc
    | 3, _ => exact hd
  · match i, hi with
    | 0, _ => exact lt16 (i64_md ha)
    | 1, _ => exact lt16 (i64_md hb)
    | 2, _ => exact lt16 (i64_md hc)
    | 3, _ => exact lt16 (i64_md hd)
  · match k, hk with
    | 0, _ => exact lt16 ⟨by show _ ≤ (1 : Int); omega, by show (1 : Int) ≤ _; omega⟩
    | 1, _ => rw [e1]; exact lt16 (i64_md ha)
    | 2, _ => rw [e2]; exact lt16 hab
    | 3, _ => rw [e3]; exact lt16 habc
    | 4, _ => rw [e4]; exact lt16 habcd
theorem bc_new {W : World} {t : TypeId} {g : Nat} {s : Bool} {ao : Option Addr} {l c : Nat} (hg : W.heap.size = g) : Bc (W.alloc (.cells #[.bool s, .slice ao l c] t)) g s ao l c := by
  subst hg
  exact ⟨by simp [go_sem], by simp [go_sem], by simp [go_sem], by simp [go_sem]⟩
theorem bc_0 {W w' : World} {t : TypeId} (hb : Below (W.alloc (.cells #[.bool false, .slice none 0 0] t)).heap.size (W.alloc (.cells #[.bool false, .slice none 0 0] t)) w') : Bc w' W.heap.size false none 0 0 := Bc.keep (bc_new rfl) hb
theorem bc_B {W w' : World} {t : TypeId} {o : Obj} (hb : Below ((W.alloc (.cells #[.bool false, .slice none 0 0] t)).alloc o).drew.heap.size ((W.alloc (.cells #[.bool false, .slice none 0 0] t)).alloc o).drew w') : Bc w' W.heap.size false none 0 0 :=
  Bc.keep (Bc.keep (bc_new rfl) (Below.drew (bl_alloc (Below.refl _ _) o))) hb
theorem bc_C {W w' : World} {t : TypeId} {o : Obj} (hb : Below ((W.alloc o).alloc (.cells #[.bool false, .slice none 0 0] t)).drew.heap.size ((W.alloc o).alloc (.cells #[.bool false, .slice none 0 0] t)).drew w') : Bc w' (W.heap.size + 1) false none 0 0 :=
  Bc.keep (Bc.keep (bc_new (by simp)) (Below.drew (Below.refl _ _))) hb
end Go.Proofs.YtboabgjgcnkelabDoor
/- THE DOCUMENT'S PLUS: its first two regions. -/
namespace Go.Proofs.YtboabgjgcnkelabDoor
open Go.RowKit Go.Shelf
attribute [local go_sem ↓] Go.wp_at_zero Go.wp_at_succ

theorem nm10 {W X : World} {b M : Nat} {gn gd bn bd mn md sn sd : Int} {s : Bool} {ao : Option Addr} {l c : Nat} (h : Nm W b gn gd bn bd mn md sn sd) (h2 : Bc W M s ao l c) (hb : Below W.heap.size W X) : X.cell? ⟨b, 0, none⟩ = some (.int .i64 gn) ∧ X.cell? ⟨b, 1, none⟩ = some (.int .i64 gd) ∧ X.cell? ⟨b, 2, none⟩ = some (.int .i64 bn) ∧ X.cell? ⟨b, 3, none⟩ = some (.int .i64 bd) ∧ X.cell? ⟨b, 4, none⟩ = some (.int .i64 mn) ∧ X.cell? ⟨b, 5, none⟩ = some (.int .i64 md) ∧ X.cell? ⟨b, 6, none⟩ = some (.int .i64 sn) ∧ X.cell? ⟨b, 7, none⟩ = some (.int .i64 sd) ∧ X.cell? ⟨M, 0, none⟩ = some (.bool s) ∧ X.cell? ⟨M, 1, none⟩ = some (.slice ao l c) := by
  obtain ⟨a0, a1, a2, a3, a4, a5, a6, a7⟩ := h.keep hb
  obtain ⟨b0, b1, _, _⟩ := h2.keep hb
  exact ⟨a0, a1, a2, a3, a4, a5, a6, a7, b0, b1⟩
theorem bc_set {W : World} {g : Nat} {s s' : Bool} {ao ao' : Option Addr} {l c l' c' : Nat} (h : Bc W g s ao l c) : Bc ((W.setCell ⟨g, 0, none⟩ (.bool s')).setCell ⟨g, 1, none⟩ (.slice ao' l' c')) g s' ao' l' c' := by
  obtain ⟨x0, x1, x2, x3⟩ := h
  have z := lt_of_cell x0
  exact ⟨by simp [go_sem, *], by simp [go_sem, *], by simp [go_sem, *], by simp [go_sem, *]⟩
theorem bg_set {W : World} {g : Nat} {s s' : Bool} {ao : Option Addr} {l c : Nat} {v y : Value} {n : Int} (h : Bc W g s ao l c) (hb : Bg W y n) : Bg ((W.setCell ⟨g, 0, none⟩ (.bool s')).setCell ⟨g, 1, none⟩ v) y n :=
  (hb.set ⟨_, h.1⟩).set ⟨s', by simp [go_sem, h.1]⟩
theorem nm8' {W X : World} {b : Nat} {gn gd bn bd mn md sn sd : Int} (h : Nm W b gn gd bn bd mn md sn sd) (hb : Below W.heap.size W X) : Nm X b gn gd bn bd mn md sn sd := h.keep hb
set_option maxHeartbeats 1600000 in
set_option maxRecDepth 100000 in
theorem r4plus_core (gn gd bn bd mn md sn sd x a1 k l1 L R : Int) (p : Bool)
    (hN : ∀ w : World, Calls Tryd.prog 45 #[nm gn gd bn bd mn md sn sd] w fun e w' => e = .returned (.int .i64 0) ∧ Below w.heap.size w w')
    (x1 : ¬ x < -2147483647) (x2 : ¬ 2147483647 < x)
    (T1 : ∀ (w : World) (g cap : Nat), w.cell? ⟨g, 0, none⟩ = some (.int .i64 x) → w.cell? ⟨g, 1, none⟩ = some (.int .i64 md) → Calls Tryd.prog 65 #[.slice (some ⟨g, 0, none⟩) 2 cap] w fun e w' => ∃ z, e = .returned z ∧ Bg w' z a1 ∧ Below w.heap.size w w')
    (I1 : ∀ w : World, Calls Tryd.prog 24 #[.int .i64 mn] w fun e w' => ∃ z, e = .returned z ∧ Bg w' z mn ∧ Below w.heap.size w w')
    (S1 : ∀ (y z : Value) (w : World), Bg w y a1 → Bg w z mn → Calls Tryd.prog 66 #[y, z] w fun e w' => ∃ u, e = .returned u ∧ Bg w' u k ∧ Below w.heap.size w w')
    (T2 : ∀ (w : World) (g cap : Nat), w.cell? ⟨g, 0, none⟩ = some (.int .i64 gn) → w.cell? ⟨g, 1, none⟩ = some (.int .i64 sd) → w.cell? ⟨g, 2, none⟩ = some (.int .i64 bd) → Calls Tryd.prog 65 #[.slice (some ⟨g, 0, none⟩) 3 cap] w fun e w' => ∃ z, e = .returned z ∧ Bg w' z l1 ∧ Below w.heap.size w w')
    (M2 : ∀ (y z : Value) (w : World), Bg w y k → Bg w z l1 → Calls Tryd.prog 67 #[y, z] w fun e w' => ∃ u, e = .returned u ∧ Bg w' u L ∧ Below w.heap.size w w')
    (T3 : ∀ (w : World) (g cap : Nat), w.cell? ⟨g, 0, none⟩ = some (.int .i64 bn) → w.cell? ⟨g, 1, none⟩ = some (.int .i64 gd) → w.cell? ⟨g, 2, none⟩ = some (.int .i64 md) → w.cell? ⟨g, 3, none⟩ = some (.int .i64 sn) → Calls Tryd.prog 65 #[.slice (some ⟨g, 0, none⟩) 4 cap] w fun e w' => ∃ z, e = .returned z ∧ Bg w' z R ∧ Below w.heap.size w w')
    (A3 : ∀ (y z : Value) (w : World), Bg w y L → Bg w z R → Calls Tryd.prog 60 #[y, z] w fun e w' => ∃ u, e = .returned u ∧ Bg w' u (L + R) ∧ Below w.heap.size w w')
    (I0 : ∀ w : World, Calls Tryd.prog 24 #[.int .i64 0] w fun e w' => ∃ z, e = .returned z ∧ Bg w' z 0 ∧ Below w.heap.size w w')
    (C0 : ∀ (y z : Value) (w : World), Bg w y (L + R) → Bg w z 0 → Calls Tryd.prog 64 #[y, z] w fun e w' => ∃ v, e = .returned (.int .i64 v) ∧ decide (0 ≤ v) = p ∧ Below w.heap.size w w')
    (w : World) :
    Calls Tryd.prog 46 #[nm gn gd bn bd mn md sn sd, .int .i64 x] w fun e w' => e = .returned (.tuple #[.bool p, .int .i64 0]) ∧ Below w.heap.size w w' := by
  have HN := hid1 hN; have HT1 := hid1 T1; have HI1 := hid1 I1; have HS1 := hid1 S1; have HT2 := hid1 T2; have HM2 := hid1 M2; have HT3 := hid1 T3; have HA3 := hid1 A3; have HI0 := hid1 I0; have HC0 := hid1 C0
  clear hN T1 I1 S1 T2 M2 T3 A3 I0 C0
  go_enter Tryd.func46, Tryd.ntmps46
  go_wp2_with fail
  refine gen_calls (fun W' => Below w.heap.size w W' ∧ Hid (Nm W' w.heap.size gn gd bn bd mn md sn sd)) ⟨by repeat (first | (with_reducible exact Below.refl _ _) | (with_reducible refine bl_alloc ?_ _) | (with_reducible refine Below.drew ?_) | (with_reducible refine bl_drewN ?_ _) | (with_reducible refine bl_set ?_ (by omega) _) | (with_reducible refine bl_step ?_ (by assumption))), hid1 (ny_new rfl).1⟩ ?_
  rintro W ⟨B0, HM⟩
  refine (HN.out _).mono ?_
  rintro e w1 ⟨rfl, hb1⟩
  replace HM := hid1 (HM.out.keep hb1)
  have B1 : Below w.heap.size w w1 := by repeat (first | (with_reducible exact Below.refl _ _) | (with_reducible refine bl_alloc ?_ _) | (with_reducible refine Below.drew ?_) | (with_reducible refine bl_drewN ?_ _) | (with_reducible refine bl_set ?_ (by omega) _) | (with_reducible refine bl_step ?_ (by assumption)))
  have zB := B1.size
  clear hb1 B0 HN
  go_upto_region 6 with fail
  go_cut [7] (fun s7 wx => ∃ M s ao l c, w1.heap.size ≤ M ∧ s7 = .pointer (some ⟨M, 0, none⟩) ∧ Hid (Bc wx M s ao l c) ∧ Hid (Bg wx (.agg #[.bool s, .slice ao l c]) k) ∧ Hid (Nm wx w.heap.size gn gd bn bd mn md sn sd) ∧ Below w.heap.size w wx)
  case first =>
    obtain ⟨m0, m1, m2, m3, m4, m5, m6, m7⟩ := HM.out
    go_region_held3 (fun X => X.cell? ⟨w.heap.size, 0, none⟩ = some (.int .i64 gn) ∧ X.cell? ⟨w.heap.size, 1, none⟩ = some (.int .i64 gd) ∧ X.cell? ⟨w.heap.size, 2, none⟩ = some (.int .i64 bn) ∧ X.cell? ⟨w.heap.size, 3, none⟩ = some (.int .i64 bd) ∧ X.cell? ⟨w.heap.size, 4, none⟩ = some (.int .i64 mn) ∧ X.cell? ⟨w.heap.size, 5, none⟩ = some (.int .i64 md) ∧ X.cell? ⟨w.heap.size, 6, none⟩ = some (.int .i64 sn) ∧ X.cell? ⟨w.heap.size, 7, none⟩ = some (.int .i64 sd)) (((try dsimp only); (with_reducible refine nm8 HM.out ?_); repeat (first | (with_reducible exact Below.refl _ _) | (with_reducible refine bl_alloc ?_ _) | (with_reducible refine Below.drew ?_) | (with_reducible refine bl_drewN ?_ _) | (with_reducible refine bl_set ?_ (by omega) _) | (with_reducible refine bl_step ?_ (by assumption)))))
      (first
        | (go_at_call 65; (with_reducible refine (HT1.out _ _ _ (by simp [go_sem]) (by simp [go_sem])).mono ?_); rintro e X1 ⟨u1, rfl, h1, hb1⟩; obtain ⟨s1, o1, l1, c1, rfl⟩ := h1.form; have HB1 := hid1 h1; clear h1; have z1 : w1.heap.size ≤ X1.heap.size := Nat.le_trans (by first | exact Nat.le_refl _ | (simp; done) | (simp; omega)) hb1.size; (first | (with_reducible have NA := hid1 (bc_B (W := w1) hb1)) | (with_reducible have NA := hid1 (bc_C (W := w1) hb1)) | skip))
        | (go_at_call 24; (with_reducible refine (HI1.out _).mono ?_); rintro e X2 ⟨u2, rfl, h2, hb2⟩; obtain ⟨s2, o2, l2, c2, rfl⟩ := h2.form; have HB2 := hid1 h2; clear h2; have HB1 := hid1 (HB1.out.below (w' := X2) (by repeat (first | (with_reducible exact Below.refl _ _) | (with_reducible refine bl_alloc ?_ _) | (with_reducible refine Below.drew ?_) | (with_reducible refine bl_drewN ?_ _) | (with_reducible refine bl_set ?_ (by omega) _) | (with_reducible refine bl_step ?_ (by assumption))))); have z2 : X1.heap.size ≤ X2.heap.size := Nat.le_trans (by first | exact Nat.le_refl _ | (simp; done) | (simp; omega)) hb2.size; (first | (with_reducible have NB := hid1 (bc_0 (W := X1) hb2)) | (with_reducible have NB := hid1 (NA.out.keep hb2)) | skip))
        | (go_at_call 66; (with_reducible refine (HS1.out _ _ _ (HB1.out.below (by repeat (first | (with_reducible exact Below.refl _ _) | (with_reducible refine bl_alloc ?_ _) | (with_reducible refine Below.drew ?_) | (with_reducible refine bl_drewN ?_ _) | (with_reducible refine bl_set ?_ (by omega) _) | (with_reducible refine bl_step ?_ (by assumption))))) (HB2.out.below (by repeat (first | (with_reducible exact Below.refl _ _) | (with_reducible refine bl_alloc ?_ _) | (with_reducible refine Below.drew ?_) | (with_reducible refine bl_drewN ?_ _) | (with_reducible refine bl_set ?_ (by omega) _) | (with_reducible refine bl_step ?_ (by assumption)))))).mono ?_); rintro e X3 ⟨u3, rfl, h3, hb3⟩; obtain ⟨s3, o3, l3, c3, rfl⟩ := h3.form; have HB3 := hid1 h3; clear h3; have z3 : X2.heap.size ≤ X3.heap.size := Nat.le_trans (by first | exact Nat.le_refl _ | (simp; done) | (simp; omega)) hb3.size; (first | ((with_reducible have NC := hid1 (bc_0 (W := X2) hb3)); obtain ⟨n0, n1, n2, n3⟩ := NC.out; have zn := lt_of_cell n0) | ((with_reducible have NC := hid1 (NB.out.keep hb3)); obtain ⟨n0, n1, n2, n3⟩ := NC.out; have zn := lt_of_cell n0) | skip)))
    all_goals go_wp2_with fail
    all_goals go_meet
    · exact ⟨_, s3, o3, l3, c3, by omega, rfl, hid1 (bc_new rfl), hid1 (HB3.out.below (by repeat (first | (with_reducible exact Below.refl _ _) | (with_reducible refine bl_alloc ?_ _) | (with_reducible refine Below.drew ?_) | (with_reducible refine bl_drewN ?_ _) | (with_reducible refine bl_set ?_ (by omega) _) | (with_reducible refine bl_step ?_ (by assumption))))), hid1 (HM.out.keep (by repeat (first | (with_reducible exact Below.refl _ _) | (with_reducible refine bl_alloc ?_ _) | (with_reducible refine Below.drew ?_) | (with_reducible refine bl_drewN ?_ _) | (with_reducible refine bl_set ?_ (by omega) _) | (with_reducible refine bl_step ?_ (by assumption))))), by repeat (first | (with_reducible exact Below.refl _ _) | (with_reducible refine bl_alloc ?_ _) | (with_reducible refine Below.drew ?_) | (with_reducible refine bl_drewN ?_ _) | (with_reducible refine bl_set ?_ (by omega) _) | (with_reducible refine bl_step ?_ (by assumption)))⟩
    · exact ⟨_, s3, o3, l3, c3, by omega, rfl, hid1 (bc_set NC.out), hid1 (bg_set NC.out HB3.out), hid1 (HM.out.keep (by repeat (first | (with_reducible exact Below.refl _ _) | (with_reducible refine bl_alloc ?_ _) | (with_reducible refine Below.drew ?_) | (with_reducible refine bl_drewN ?_ _) | (with_reducible refine bl_set ?_ (by omega) _) | (with_reducible refine bl_step ?_ (by assumption))))), by repeat (first | (with_reducible exact Below.refl _ _) | (with_reducible refine bl_alloc ?_ _) | (with_reducible refine Below.drew ?_) | (with_reducible refine bl_drewN ?_ _) | (with_reducible refine bl_set ?_ (by omega) _) | (with_reducible refine bl_step ?_ (by assumption)))⟩
    · exact ⟨_, s3, o3, l3, c3, by omega, rfl, hid1 (bc_set NC.out), hid1 (bg_set NC.out HB3.out), hid1 (HM.out.keep (by repeat (first | (with_reducible exact Below.refl _ _) | (with_reducible refine bl_alloc ?_ _) | (with_reducible refine Below.drew ?_) | (with_reducible refine bl_drewN ?_ _) | (with_reducible refine bl_set ?_ (by omega) _) | (with_reducible refine bl_step ?_ (by assumption))))), by repeat (first | (with_reducible exact Below.refl _ _) | (with_reducible refine bl_alloc ?_ _) | (with_reducible refine Below.drew ?_) | (with_reducible refine bl_drewN ?_ _) | (with_reducible refine bl_set ?_ (by omega) _) | (with_reducible refine bl_step ?_ (by assumption)))⟩
    · exact ⟨_, s3, o3, l3, c3, by omega, rfl, hid1 (bc_set NC.out), hid1 (bg_set NC.out HB3.out), hid1 (HM.out.keep (by repeat (first | (with_reducible exact Below.refl _ _) | (with_reducible refine bl_alloc ?_ _) | (with_reducible refine Below.drew ?_) | (with_reducible refine bl_drewN ?_ _) | (with_reducible refine bl_set ?_ (by omega) _) | (with_reducible refine bl_step ?_ (by assumption))))), by repeat (first | (with_reducible exact Below.refl _ _) | (with_reducible refine bl_alloc ?_ _) | (with_reducible refine Below.drew ?_) | (with_reducible refine bl_drewN ?_ _) | (with_reducible refine bl_set ?_ (by omega) _) | (with_reducible refine bl_step ?_ (by assumption)))⟩
    · exact ⟨_, s3, o3, l3, c3, by omega, rfl, hid1 (bc_set NC.out), hid1 (bg_set NC.out HB3.out), hid1 (HM.out.keep (by repeat (first | (with_reducible exact Below.refl _ _) | (with_reducible refine bl_alloc ?_ _) | (with_reducible refine Below.drew ?_) | (with_reducible refine bl_drewN ?_ _) | (with_reducible refine bl_set ?_ (by omega) _) | (with_reducible refine bl_step ?_ (by assumption))))), by repeat (first | (with_reducible exact Below.refl _ _) | (with_reducible refine bl_alloc ?_ _) | (with_reducible refine Below.drew ?_) | (with_reducible refine bl_drewN ?_ _) | (with_reducible refine bl_set ?_ (by omega) _) | (with_reducible refine bl_step ?_ (by assumption)))⟩
  case rest =>
    clear HM
    obtain ⟨M, s, ao, l, c, zM, rfl, HC, HK, HM, BC⟩ := hcut
    rename World => V
    clear B1 HT1 HI1 HS1
    have zV := BC.size
    go_upto_region 7 with fail
    go_cut [8] (fun s8 wx => ∃ M' s' ao' l' c', V.heap.size ≤ M' ∧ s8 = .pointer (some ⟨M', 0, none⟩) ∧ Hid (Bc wx M' s' ao' l' c') ∧ Hid (Bg wx (.agg #[.bool s', .slice ao' l' c']) L) ∧ Hid (Nm wx w.heap.size gn gd bn bd mn md sn sd) ∧ Below w.heap.size w wx)
    case first =>
      obtain ⟨m0, m1, m2, m3, m4, m5, m6, m7⟩ := HM.out
      obtain ⟨y0, y1, _, _⟩ := HC.out
      go_region_held3 (fun X => X.cell? ⟨w.heap.size, 0, none⟩ = some (.int .i64 gn) ∧ X.cell? ⟨w.heap.size, 1, none⟩ = some (.int .i64 gd) ∧ X.cell? ⟨w.heap.size, 2, none⟩ = some (.int .i64 bn) ∧ X.cell? ⟨w.heap.size, 3, none⟩ = some (.int .i64 bd) ∧ X.cell? ⟨w.heap.size, 4, none⟩ = some (.int .i64 mn) ∧ X.cell? ⟨w.heap.size, 5, none⟩ = some (.int .i64 md) ∧ X.cell? ⟨w.heap.size, 6, none⟩ = some (.int .i64 sn) ∧ X.cell? ⟨w.heap.size, 7, none⟩ = some (.int .i64 sd) ∧ X.cell? ⟨M, 0, none⟩ = some (.bool s) ∧ X.cell? ⟨M, 1, none⟩ = some (.slice ao l c)) (((try dsimp only); (with_reducible refine nm10 HM.out HC.out ?_); repeat (first | (with_reducible exact Below.refl _ _) | (with_reducible refine bl_alloc ?_ _) | (with_reducible refine Below.drew ?_) | (with_reducible refine bl_drewN ?_ _) | (with_reducible refine bl_set ?_ (by omega) _) | (with_reducible refine bl_step ?_ (by assumption)))))
        (first
          | (go_at_call 65; (with_reducible refine (HT2.out _ _ _ (by simp [go_sem]) (by simp [go_sem]) (by simp [go_sem])).mono ?_); rintro e X1 ⟨u1, rfl, h1, hb1⟩; obtain ⟨s1, o1, l1, c1, rfl⟩ := h1.form; have HB1 := hid1 h1; clear h1; have z1 : V.heap.size ≤ X1.heap.size := Nat.le_trans (by first | exact Nat.le_refl _ | (simp; done) | (simp; omega)) hb1.size; (first | (with_reducible have NA := hid1 (bc_B (W := V) hb1)) | (with_reducible have NA := hid1 (bc_C (W := V) hb1)) | skip))
          | (go_at_call 67; (with_reducible refine (HM2.out _ _ _ (HK.out.below (by repeat (first | (with_reducible exact Below.refl _ _) | (with_reducible refine bl_alloc ?_ _) | (with_reducible refine Below.drew ?_) | (with_reducible refine bl_drewN ?_ _) | (with_reducible refine bl_set ?_ (by omega) _) | (with_reducible refine bl_step ?_ (by assumption))))) (HB1.out.below (by repeat (first | (with_reducible exact Below.refl _ _) | (with_reducible refine bl_alloc ?_ _) | (with_reducible refine Below.drew ?_) | (with_reducible refine bl_drewN ?_ _) | (with_reducible refine bl_set ?_ (by omega) _) | (with_reducible refine bl_step ?_ (by assumption)))))).mono ?_); rintro e X3 ⟨u3, rfl, h3, hb3⟩; obtain ⟨s3, o3, l3, c3, rfl⟩ := h3.form; have HB3 := hid1 h3; clear h3; have z3 : X1.heap.size ≤ X3.heap.size := Nat.le_trans (by first | exact Nat.le_refl _ | (simp; done) | (simp; omega)) hb3.size; (first | ((with_reducible have NC := hid1 (bc_0 (W := X1) hb3)); obtain ⟨n0, n1, n2, n3⟩ := NC.out; have zn := lt_of_cell n0) | ((with_reducible have NC := hid1 (NA.out.keep hb3)); obtain ⟨n0, n1, n2, n3⟩ := NC.out; have zn := lt_of_cell n0) | skip)))
      all_goals go_wp2_with fail
      all_goals go_meet
      · exact ⟨_, s3, o3, l3, c3, by omega, rfl, hid1 (bc_new rfl), hid1 (HB3.out.below (by repeat (first | (with_reducible exact Below.refl _ _) | (with_reducible refine bl_alloc ?_ _) | (with_reducible refine Below.drew ?_) | (with_reducible refine bl_drewN ?_ _) | (with_reducible refine bl_set ?_ (by omega) _) | (with_reducible refine bl_step ?_ (by assumption))))), hid1 (HM.out.keep (by repeat (first | (with_reducible exact Below.refl _ _) | (with_reducible refine bl_alloc ?_ _) | (with_reducible refine Below.drew ?_) | (with_reducible refine bl_drewN ?_ _) | (with_reducible refine bl_set ?_ (by omega) _) | (with_reducible refine bl_step ?_ (by assumption))))), by repeat (first | (with_reducible exact Below.refl _ _) | (with_reducible refine bl_alloc ?_ _) | (with_reducible refine Below.drew ?_) | (with_reducible refine bl_drewN ?_ _) | (with_reducible refine bl_set ?_ (by omega) _) | (with_reducible refine bl_step ?_ (by assumption)))⟩
      · exact ⟨_, s3, o3, l3, c3, by omega, rfl, hid1 (bc_set NC.out), hid1 (bg_set NC.out HB3.out), hid1 (HM.out.keep (by repeat (first | (with_reducible exact Below.refl _ _) | (with_reducible refine bl_alloc ?_ _) | (with_reducible refine Below.drew ?_) | (with_reducible refine bl_drewN ?_ _) | (with_reducible refine bl_set ?_ (by omega) _) | (with_reducible refine bl_step ?_ (by assumption))))), by repeat (first | (with_reducible exact Below.refl _ _) | (with_reducible refine bl_alloc ?_ _) | (with_reducible refine Below.drew ?_) | (with_reducible refine bl_drewN ?_ _) | (with_reducible refine bl_set ?_ (by omega) _) | (with_reducible refine bl_step ?_ (by assumption)))⟩
      · exact ⟨_, s3, o3, l3, c3, by omega, rfl, hid1 (bc_set NC.out), hid1 (bg_set NC.out HB3.out), hid1 (HM.out.keep (by repeat (first | (with_reducible exact Below.refl _ _) | (with_reducible refine bl_alloc ?_ _) | (with_reducible refine Below.drew ?_) | (with_reducible refine bl_drewN ?_ _) | (with_reducible refine bl_set ?_ (by omega) _) | (with_reducible refine bl_step ?_ (by assumption))))), by repeat (first | (with_reducible exact Below.refl _ _) | (with_reducible refine bl_alloc ?_ _) | (with_reducible refine Below.drew ?_) | (with_reducible refine bl_drewN ?_ _) | (with_reducible refine bl_set ?_ (by omega) _) | (with_reducible refine bl_step ?_ (by assumption)))⟩
      · exact ⟨_, s3, o3, l3, c3, by omega, rfl, hid1 (bc_set NC.out), hid1 (bg_set NC.out HB3.out), hid1 (HM.out.keep (by repeat (first | (with_reducible exact Below.refl _ _) | (with_reducible refine bl_alloc ?_ _) | (with_reducible refine Below.drew ?_) | (with_reducible refine bl_drewN ?_ _) | (with_reducible refine bl_set ?_ (by omega) _) | (with_reducible refine bl_step ?_ (by assumption))))), by repeat (first | (with_reducible exact Below.refl _ _) | (with_reducible refine bl_alloc ?_ _) | (with_reducible refine Below.drew ?_) | (with_reducible refine bl_drewN ?_ _) | (with_reducible refine bl_set ?_ (by omega) _) | (with_reducible refine bl_step ?_ (by assumption)))⟩
    case rest =>
      clear HM HC HK
      obtain ⟨M', s', ao', l', c', zM', rfl, HC, HK, HM, BC2⟩ := hcut
      rename World => V2
      clear BC HT2 HM2
      obtain ⟨m0, m1, m2, m3, m4, m5, m6, m7⟩ := HM.out
      have zm := lt_of_cell m0
      go_wp2_with fail
      refine (HT3.out _ _ _ (by simp [go_sem]) (by simp [go_sem]) (by simp [go_sem]) (by simp [go_sem])).mono ?_
      rintro e X1 ⟨u1, rfl, h1, hb1⟩
      obtain ⟨s1, o1, l1', c1, rfl⟩ := h1.form
      have HB1 := hid1 h1
      clear h1
      have b1 : Below V2.heap.size V2 X1 := by repeat (first | (with_reducible exact Below.refl _ _) | (with_reducible refine bl_alloc ?_ _) | (with_reducible refine Below.drew ?_) | (with_reducible refine bl_drewN ?_ _) | (with_reducible refine bl_set ?_ (by omega) _) | (with_reducible refine bl_step ?_ (by assumption)))
      replace HC := hid1 (HC.out.keep b1)
      replace HK := hid1 (HK.out.below b1)
      have B3 : Below w.heap.size w X1 := by repeat (first | (with_reducible exact Below.refl _ _) | (with_reducible refine bl_alloc ?_ _) | (with_reducible refine Below.drew ?_) | (with_reducible refine bl_drewN ?_ _) | (with_reducible refine bl_set ?_ (by omega) _) | (with_reducible refine bl_step ?_ (by assumption)))
      clear hb1 b1 BC2 m0 m1 m2 m3 m4 m5 m6 m7 zm HM HT3
      obtain ⟨y0, y1, _, _⟩ := HC.out
      have zy := lt_of_cell y0
      go_wp2_with fail
      refine (HA3.out _ _ _ (HK.out.below (by repeat (first | (with_reducible exact Below.refl _ _) | (with_reducible refine bl_alloc ?_ _) | (with_reducible refine Below.drew ?_) | (with_reducible refine bl_drewN ?_ _) | (with_reducible refine bl_set ?_ (by omega) _) | (with_reducible refine bl_step ?_ (by assumption))))) (HB1.out.below (by repeat (first | (with_reducible exact Below.refl _ _) | (with_reducible refine bl_alloc ?_ _) | (with_reducible refine Below.drew ?_) | (with_reducible refine bl_drewN ?_ _) | (with_reducible refine bl_set ?_ (by omega) _) | (with_reducible refine bl_step ?_ (by assumption)))))).mono ?_
      rintro e X2 ⟨u2, rfl, h2, hb2⟩
      obtain ⟨s2, o2, l2', c2, rfl⟩ := h2.form
      have HB2 := hid1 h2
      clear h2
      have B4 : Below w.heap.size w X2 := by repeat (first | (with_reducible exact Below.refl _ _) | (with_reducible refine bl_alloc ?_ _) | (with_reducible refine Below.drew ?_) | (with_reducible refine bl_drewN ?_ _) | (with_reducible refine bl_set ?_ (by omega) _) | (with_reducible refine bl_step ?_ (by assumption)))
      clear hb2 B3 y0 y1 zy HC HK HB1 HA3
      go_wp2_with fail
      refine (HI0.out _).mono ?_
      rintro e X3 ⟨u3, rfl, h3, hb3⟩
      obtain ⟨s3, o3, l3', c3, rfl⟩ := h3.form
      have HB3 := hid1 h3
      clear h3
      replace HB2 := hid1 (HB2.out.below hb3)
      have B5 : Below w.heap.size w X3 := by repeat (first | (with_reducible exact Below.refl _ _) | (with_reducible refine bl_alloc ?_ _) | (with_reducible refine Below.drew ?_) | (with_reducible refine bl_drewN ?_ _) | (with_reducible refine bl_set ?_ (by omega) _) | (with_reducible refine bl_step ?_ (by assumption)))
      clear hb3 B4
      go_wp2_with fail
      refine (HC0.out _ _ _ HB2.out HB3.out).mono ?_
      rintro e X4 ⟨v, rfl, hv, hb4⟩
      have HV := hid1 hv
      clear hv
      go_wp2
      go_ret2
      refine ⟨by rw [← HV.out]; rfl, ?_⟩
      repeat (first | (with_reducible exact Below.refl _ _) | (with_reducible refine bl_alloc ?_ _) | (with_reducible refine Below.drew ?_) | (with_reducible refine bl_drewN ?_ _) | (with_reducible refine bl_set ?_ (by omega) _) | (with_reducible refine bl_step ?_ (by assumption)))
end Go.Proofs.YtboabgjgcnkelabDoor
/- THE DOCUMENT'S PLUS: THE WHOLE. -/
namespace Go.Proofs.YtboabgjgcnkelabDoor
open Go.RowKit Go.Shelf
attribute [local go_sem ↓] Go.wp_at_zero Go.wp_at_succ

theorem sgn_zero (d : Int) : decide (0 ≤ sgnOf d) = decide (0 ≤ d) := by
  by_cases h : 0 ≤ d
  · rw [decide_eq_true h]; refine decide_eq_true ?_; unfold sgnOf; split <;> (try split) <;> omega
  · rw [decide_eq_false h]; refine decide_eq_false ?_; unfold sgnOf; split <;> (try split) <;> omega
set_option maxRecDepth 100000 in
theorem r4plus_no1 (gn gd bn bd mn md sn sd x : Int) (h : ¬ noE gn gd bn bd mn md sn sd = 0) (w : World) :
    Calls Tryd.prog 46 #[nm gn gd bn bd mn md sn sd, .int .i64 x] w fun e w' => e = .returned (.tuple #[.bool false, .int .i64 (noE gn gd bn bd mn md sn sd)]) ∧ Below w.heap.size w w' := by
  have HN := hid1 (r4norm_any gn gd bn bd mn md sn sd)
  obtain ⟨v, ev⟩ : ∃ v, noE gn gd bn bd mn md sn sd = v := ⟨_, rfl⟩
  rw [ev] at HN h ⊢
  clear ev
  go_enter Tryd.func46, Tryd.ntmps46
  go_wp2_with fail
  refine (HN.out _).mono ?_
  rintro e w1 ⟨rfl, hb1⟩
  go_wp2
  go_ret2
  refine ⟨rfl, ?_⟩
  repeat (first | exact Below.refl _ _ | refine bl_alloc ?_ _ | refine Below.drew ?_ | refine bl_drewN ?_ _ | refine bl_set ?_ (by omega) _ | refine bl_step ?_ (by assumption))
set_option maxRecDepth 100000 in
theorem r4plus_no2 (gn gd bn bd mn md sn sd x : Int) (h : noE gn gd bn bd mn md sn sd = 0) (h2 : ¬ Sm x) (w : World) :
    Calls Tryd.prog 46 #[nm gn gd bn bd mn md sn sd, .int .i64 x] w fun e w' => e = .returned (.tuple #[.bool false, .int .i64 1]) ∧ Below w.heap.size w w' := by
  have HN := hid1 (r4norm_any gn gd bn bd mn md sn sd)
  rw [h] at HN
  clear h
  by_cases x1 : x < -2147483647
  · go_enter Tryd.func46, Tryd.ntmps46
    go_wp2_with fail
    refine (HN.out _).mono ?_
    rintro e w1 ⟨rfl, hb1⟩
    go_wp2
    go_ret2
    refine ⟨rfl, ?_⟩
    repeat (first | exact Below.refl _ _ | refine bl_alloc ?_ _ | refine Below.drew ?_ | refine bl_drewN ?_ _ | refine bl_set ?_ (by omega) _ | refine bl_step ?_ (by assumption))
  · have x2 : 2147483647 < x := by
      by_cases k : 2147483647 < x
      · exact k
      · exact absurd ⟨by omega, by omega⟩ h2
    go_enter Tryd.func46, Tryd.ntmps46
    go_wp2_with fail
    refine (HN.out _).mono ?_
    rintro e w1 ⟨rfl, hb1⟩
    go_wp2
    go_ret2
    refine ⟨rfl, ?_⟩
    repeat (first | exact Below.refl _ _ | refine bl_alloc ?_ _ | refine Below.drew ?_ | refine bl_drewN ?_ _ | refine bl_set ?_ (by omega) _ | refine bl_step ?_ (by assumption))
theorem r4plus_ok (gn gd bn bd mn md sn sd x : Int) (h : noE gn gd bn bd mn md sn sd = 0) (hx : Sm x) (w : World) :
    Calls Tryd.prog 46 #[nm gn gd bn bd mn md sn sd, .int .i64 x] w fun e w' => e = .returned (.tuple #[.bool (decide (0 ≤ nv gn gd bn bd mn md sn sd x)), .int .i64 0]) ∧ Below w.heap.size w w' := by
  obtain ⟨hg, hb, hm, hs, s1⟩ := noE_ok h
  have HN := r4norm_any gn gd bn bd mn md sn sd
  rw [h] at HN
  have km := mid_bd hm hx
  have xm := bd_mul (A := 2147483647) (B := 1048576) (a := x) (b := md) hx ⟨by have := hm.1; omega, hm.2.1⟩
  obtain ⟨l1, l2, l3⟩ := left_bd hg hb hm hs hx
  obtain ⟨r1, r2, r3⟩ := right_bd hg hb hm hs
  have g1 : I64 gn := ⟨by have := hg.2.2.1; omega, by have := hg.2.2.2; omega⟩
  have g2 : I64 gd := ⟨by have := hg.1; omega, by have := hg.2.1; omega⟩
  have b1 : I64 bn := ⟨by have := hb.2.2.1; omega, by have := hb.2.2.2; omega⟩
  have b2 : I64 bd := ⟨by have := hb.1; omega, by have := hb.2.1; omega⟩
  have m1 : I64 mn := ⟨by have := hm.2.2.1; omega, by have := hm.2.2.2; omega⟩
  have m2 : I64 md := ⟨by have := hm.1; omega, by have := hm.2.1; omega⟩
  have t1 : I64 sn := ⟨by have := hs.2.2.1; omega, by have := hs.2.2.2; omega⟩
  have t2 : I64 sd := ⟨by have := hs.1; omega, by have := hs.2.1; omega⟩
  have xI : I64 x := ⟨by have := hx.1; omega, by have := hx.2; omega⟩
  have i0 : I64 0 := ⟨by omega, by omega⟩
  have q1 := bd_mul (A := 2147483647) (B := 1048576) (a := gn) (b := sd) hg.2.2 ⟨by have := hs.1; omega, hs.2.1⟩
  have q2 := bd_mul q1 (B := 1048576) (b := bd) ⟨by have := hb.1; omega, hb.2.1⟩
  have eL : (x * md - mn) * (gn * sd * bd) = gn * (x * md - mn) * sd * bd := by ac_rfl
  have e0 : gn * (x * md - mn) * sd * bd + bn * gd * md * sn - 0 = gn * (x * md - mn) * sd * bd + bn * gd * md * sn := by omega
  refine r4plus_core gn gd bn bd mn md sn sd x (x * md) (x * md - mn) (gn * sd * bd) (gn * (x * md - mn) * sd * bd) (bn * gd * md * sn) _ HN (by have := hx.1; omega) (by have := hx.2; omega)
    (fun w g cap h0 h1 => times2 x md xI m2 ⟨by omega, by omega⟩ w g cap h0 h1) (rint_any mn m1)
    (fun y z w hy hz => rsub_any _ _ y z w hy hz (lt40 ⟨by omega, by omega⟩) (lt40 (i64_md m1)))
    (fun w g cap h0 h1 h2 => times3 gn sd bd g1 t2 b2 ⟨by omega, by omega⟩ ⟨by omega, by omega⟩ w g cap h0 h1 h2)
    (fun y z w hy hz => eL ▸ rmul_any _ _ y z w hy hz (lt16 ⟨by omega, by omega⟩) (lt16 ⟨by omega, by omega⟩))
    (fun w g cap h0 h1 h2 h3 => times4 bn gd md sn b1 g2 m2 t1 ⟨by omega, by omega⟩ ⟨by omega, by omega⟩ ⟨by omega, by omega⟩ w g cap h0 h1 h2 h3)
    (fun y z w hy hz => radd_any _ _ y z w hy hz (lt40 ⟨by omega, by omega⟩) (lt40 ⟨by omega, by omega⟩)) (rint_any 0 i0)
    (fun y z w hy hz => (rcmp_any _ _ y z w hy hz (lt40 ⟨by omega, by omega⟩) (lt40 ⟨by omega, by omega⟩) _ e0).mono ?_) w
  rintro e w' ⟨rfl, hb'⟩
  exact ⟨_, rfl, sgn_zero _, hb'⟩
theorem r4plus_any (gn gd bn bd mn md sn sd x : Int) (w : World) :
    Calls Tryd.prog 46 #[nm gn gd bn bd mn md sn sd, .int .i64 x] w fun e w' => e = .returned (.tuple #[.bool (plV gn gd bn bd mn md sn sd x), .int .i64 (plE gn gd bn bd mn md sn sd x)]) ∧ Below w.heap.size w w' := by
  unfold plV plE
  by_cases h : noE gn gd bn bd mn md sn sd = 0
  · by_cases h2 : Sm x
    · rw [decide_eq_true h, decide_eq_true h2, if_pos h, if_pos h2]
      exact r4plus_ok gn gd bn bd mn md sn sd x h h2 w
    · rw [decide_eq_true h, decide_eq_false h2, if_pos h, if_neg h2]
      exact r4plus_no2 gn gd bn bd mn md sn sd x h h2 w
  · rw [decide_eq_false h, if_neg h]
    exact r4plus_no1 gn gd bn bd mn md sn sd x h w
end Go.Proofs.YtboabgjgcnkelabDoor
/- LISTS OF FRACTIONS AND NORMS. -/
namespace Go.Proofs.YtboabgjgcnkelabDoor
open Go.RowKit Go.Shelf

/-- A norm's cells from a place on. -/
def No (w : World) (g o : Nat) (gn gd bn bd mn md sn sd : Int) : Prop := w.cell? ⟨g, o, none⟩ = some (.int .i64 gn) ∧ w.cell? ⟨g, o + 1, none⟩ = some (.int .i64 gd) ∧ w.cell? ⟨g, o + 2, none⟩ = some (.int .i64 bn) ∧ w.cell? ⟨g, o + 3, none⟩ = some (.int .i64 bd) ∧ w.cell? ⟨g, o + 4, none⟩ = some (.int .i64 mn) ∧ w.cell? ⟨g, o + 5, none⟩ = some (.int .i64 md) ∧ w.cell? ⟨g, o + 6, none⟩ = some (.int .i64 sn) ∧ w.cell? ⟨g, o + 7, none⟩ = some (.int .i64 sd)
theorem No.keep {w w' : World} {g o : Nat} {gn gd bn bd mn md sn sd : Int} (h : No w g o gn gd bn bd mn md sn sd) (hb : Below w.heap.size w w') : No w' g o gn gd bn bd mn md sn sd := by
  obtain ⟨a, c, d, e, f, h, i, j⟩ := h
  exact ⟨keepc hb a, keepc hb c, keepc hb d, keepc hb e, keepc hb f, keepc hb h, keepc hb i, keepc hb j⟩
theorem kp9 {W X : World} {g o gx ox : Nat} {gn gd bn bd mn md sn sd x : Int} (h : No W g o gn gd bn bd mn md sn sd) (hx : W.cell? ⟨gx, ox, none⟩ = some (.int .i64 x)) (hb : Below W.heap.size W X) :
    X.cell? ⟨g, o, none⟩ = some (.int .i64 gn) ∧ X.cell? ⟨g, o + 1, none⟩ = some (.int .i64 gd) ∧ X.cell? ⟨g, o + 2, none⟩ = some (.int .i64 bn) ∧ X.cell? ⟨g, o + 3, none⟩ = some (.int .i64 bd) ∧ X.cell? ⟨g, o + 4, none⟩ = some (.int .i64 mn) ∧ X.cell? ⟨g, o + 5, none⟩ = some (.int .i64 md) ∧ X.cell? ⟨g, o + 6, none⟩ = some (.int .i64 sn) ∧ X.cell? ⟨g, o + 7, none⟩ = some (.int .i64 sd) ∧ X.cell? ⟨gx, ox, none⟩ = some (.int .i64 x) := by
  obtain ⟨a, c, d, e, f, h, i, j⟩ := h
  exact ⟨keepc hb a, keepc hb c, keepc hb d, keepc hb e, keepc hb f, keepc hb h, keepc hb i, keepc hb j, keepc hb hx⟩
theorem kp4 {W X : World} {g o h p : Nat} {a b c d : Int} (a0 : W.cell? ⟨g, o, none⟩ = some (.int .i64 a)) (a1 : W.cell? ⟨g, o + 1, none⟩ = some (.int .i64 b)) (b0 : W.cell? ⟨h, p, none⟩ = some (.int .i64 c)) (b1 : W.cell? ⟨h, p + 1, none⟩ = some (.int .i64 d)) (hb : Below W.heap.size W X) :
    X.cell? ⟨g, o, none⟩ = some (.int .i64 a) ∧ X.cell? ⟨g, o + 1, none⟩ = some (.int .i64 b) ∧ X.cell? ⟨h, p, none⟩ = some (.int .i64 c) ∧ X.cell? ⟨h, p + 1, none⟩ = some (.int .i64 d) :=
  ⟨keepc hb a0, keepc hb a1, keepc hb b0, keepc hb b1⟩
def Lno (W : World) (ao : Option Addr) (m : Nat) : Prop := ∀ k, k < m → ∃ (g o : Nat) (gn gd bn bd mn md sn sd : Int), ao = some ⟨g, o, none⟩ ∧ No W g (o + k * 8) gn gd bn bd mn md sn sd
def Lfr (W : World) (ao : Option Addr) (m : Nat) : Prop := ∀ k, k < m → ∃ (g o : Nat) (n d : Int), ao = some ⟨g, o, none⟩ ∧ W.cell? ⟨g, o + k * 2, none⟩ = some (.int .i64 n) ∧ W.cell? ⟨g, o + k * 2 + 1, none⟩ = some (.int .i64 d)
def Lin (W : World) (ao : Option Addr) (m : Nat) : Prop := ∀ k, k < m → ∃ (g o : Nat) (x : Int), ao = some ⟨g, o, none⟩ ∧ W.cell? ⟨g, o + k, none⟩ = some (.int .i64 x)
theorem Lno.keep {W w' : World} {ao : Option Addr} {m : Nat} (h : Lno W ao m) (hb : Below W.heap.size W w') : Lno w' ao m := fun k hk => by
  obtain ⟨g, o, r, s, sy, sx, t, l, b, q, e, a⟩ := h k hk
  exact ⟨g, o, r, s, sy, sx, t, l, b, q, e, a.keep hb⟩
theorem Lfr.keep {W w' : World} {ao : Option Addr} {m : Nat} (h : Lfr W ao m) (hb : Below W.heap.size W w') : Lfr w' ao m := fun k hk => by
  obtain ⟨g, o, x, y, e, a, b⟩ := h k hk
  exact ⟨g, o, x, y, e, keepc hb a, keepc hb b⟩
theorem Lin.keep {W w' : World} {ao : Option Addr} {m : Nat} (h : Lin W ao m) (hb : Below W.heap.size W w') : Lin w' ao m := fun k hk => by
  obtain ⟨g, o, x, e, a⟩ := h k hk
  exact ⟨g, o, x, e, keepc hb a⟩
end Go.Proofs.YtboabgjgcnkelabDoor
/- THE DOCUMENT'S CMP. -/
namespace Go.Proofs.YtboabgjgcnkelabDoor
open Go.RowKit Go.Shelf
attribute [local go_sem ↓] Go.wp_at_zero Go.wp_at_succ

theorem sgn_cmp (a b : Int) : sgnOf (a - b) = cmpN a b := by
  unfold sgnOf cmpN
  split <;> split <;> (try split) <;> (try split) <;> omega
theorem k2_C {W w' : World} {a b : Value} {t : TypeId} {o : Obj} (hb : Below ((W.alloc o).alloc (.cells #[a, b] t)).drew.heap.size ((W.alloc o).alloc (.cells #[a, b] t)).drew w') : w'.cell? ⟨W.heap.size + 1, 0, none⟩ = some a ∧ w'.cell? ⟨W.heap.size + 1, 1, none⟩ = some b :=
  ⟨keepc hb (by simp [go_sem]), keepc hb (by simp [go_sem])⟩
theorem k2_B {W w' : World} {a b : Value} {t : TypeId} {o : Obj} (hb : Below ((W.alloc (.cells #[a, b] t)).alloc o).drew.heap.size ((W.alloc (.cells #[a, b] t)).alloc o).drew w') : w'.cell? ⟨W.heap.size, 0, none⟩ = some a ∧ w'.cell? ⟨W.heap.size, 1, none⟩ = some b :=
  ⟨keepc hb (by simp [go_sem]), keepc hb (by simp [go_sem])⟩
set_option maxHeartbeats 1600000 in
set_option maxRecDepth 100000 in
theorem r4cmp_core (n d p q a b v : Int)
    (hA : ∀ w : World, Calls Tryd.prog 22 #[fr n d] w fun e w' => e = .returned (.int .i64 0) ∧ Below w.heap.size w w')
    (hB : ∀ w : World, Calls Tryd.prog 22 #[fr p q] w fun e w' => e = .returned (.int .i64 0) ∧ Below w.heap.size w w')
    (T1 : ∀ (w : World) (g cap : Nat), w.cell? ⟨g, 0, none⟩ = some (.int .i64 n) → w.cell? ⟨g, 1, none⟩ = some (.int .i64 q) → Calls Tryd.prog 65 #[.slice (some ⟨g, 0, none⟩) 2 cap] w fun e w' => ∃ z, e = .returned z ∧ Bg w' z a ∧ Below w.heap.size w w')
    (T2 : ∀ (w : World) (g cap : Nat), w.cell? ⟨g, 0, none⟩ = some (.int .i64 p) → w.cell? ⟨g, 1, none⟩ = some (.int .i64 d) → Calls Tryd.prog 65 #[.slice (some ⟨g, 0, none⟩) 2 cap] w fun e w' => ∃ z, e = .returned z ∧ Bg w' z b ∧ Below w.heap.size w w')
    (C0 : ∀ (y z : Value) (w : World), Bg w y a → Bg w z b → Calls Tryd.prog 64 #[y, z] w fun e w' => e = .returned (.int .i64 v) ∧ Below w.heap.size w w')
    (w : World) :
    Calls Tryd.prog 44 #[fr n d, fr p q] w fun e w' => e = .returned (.tuple #[.int .i64 v, .int .i64 0]) ∧ Below w.heap.size w w' := by
  have HA := hid1 hA; have HB := hid1 hB; have HT1 := hid1 T1; have HT2 := hid1 T2; have HC0 := hid1 C0
  clear hA hB T1 T2 C0
  go_enter Tryd.func44, Tryd.ntmps44
  go_wp2_with fail
  refine gen_calls (fun W' => Below w.heap.size w W' ∧ W'.cell? ⟨w.heap.size, 0, none⟩ = some (.int .i64 n) ∧ W'.cell? ⟨w.heap.size, 1, none⟩ = some (.int .i64 d) ∧ W'.cell? ⟨w.heap.size + 1, 0, none⟩ = some (.int .i64 p) ∧ W'.cell? ⟨w.heap.size + 1, 1, none⟩ = some (.int .i64 q)) ⟨by repeat (first | (with_reducible exact Below.refl _ _) | (with_reducible refine bl_alloc ?_ _) | (with_reducible refine Below.drew ?_) | (with_reducible refine bl_drewN ?_ _) | (with_reducible refine bl_set ?_ (by omega) _) | (with_reducible refine bl_step ?_ (by assumption))), by simp [go_sem], by simp [go_sem], by simp [go_sem], by simp [go_sem]⟩ ?_
  rintro W ⟨B0, a0, a1, b0, b1⟩
  refine (HA.out _).mono ?_
  rintro e w1 ⟨rfl, hb1⟩
  replace a0 := keepc hb1 a0; replace a1 := keepc hb1 a1; replace b0 := keepc hb1 b0; replace b1 := keepc hb1 b1
  have B1 : Below w.heap.size w w1 := by repeat (first | (with_reducible exact Below.refl _ _) | (with_reducible refine bl_alloc ?_ _) | (with_reducible refine Below.drew ?_) | (with_reducible refine bl_drewN ?_ _) | (with_reducible refine bl_set ?_ (by omega) _) | (with_reducible refine bl_step ?_ (by assumption)))
  clear hb1 B0 HA
  go_wp2_with fail
  refine (HB.out _).mono ?_
  rintro e w2 ⟨rfl, hb2⟩
  replace a0 := keepc hb2 a0; replace a1 := keepc hb2 a1; replace b0 := keepc hb2 b0; replace b1 := keepc hb2 b1
  have B2 : Below w.heap.size w w2 := by repeat (first | (with_reducible exact Below.refl _ _) | (with_reducible refine bl_alloc ?_ _) | (with_reducible refine Below.drew ?_) | (with_reducible refine bl_drewN ?_ _) | (with_reducible refine bl_set ?_ (by omega) _) | (with_reducible refine bl_step ?_ (by assumption)))
  clear hb2 B1 HB
  go_upto_region 3 with fail
  go_region_held3 (fun X => X.cell? ⟨w.heap.size, 0, none⟩ = some (.int .i64 n) ∧ X.cell? ⟨w.heap.size, 1, none⟩ = some (.int .i64 d) ∧ X.cell? ⟨w.heap.size + 1, 0, none⟩ = some (.int .i64 p) ∧ X.cell? ⟨w.heap.size + 1, 1, none⟩ = some (.int .i64 q)) (((try dsimp only); (with_reducible refine kp4 (W := w2) a0 a1 b0 b1 ?_); repeat (first | (with_reducible exact Below.refl _ _) | (with_reducible refine bl_alloc ?_ _) | (with_reducible refine Below.drew ?_) | (with_reducible refine bl_drewN ?_ _) | (with_reducible refine bl_set ?_ (by omega) _) | (with_reducible refine bl_step ?_ (by assumption)))))
    (first
      | (go_at_call 65; have tst := HB1; clear tst; (with_reducible refine (HT2.out _ _ _ (by first | assumption | (simp [go_sem]; done) | (simp [go_sem, *]; done)) (by first | assumption | (simp [go_sem]; done) | (simp [go_sem, *]; done))).mono ?_); rintro e X2 ⟨u2, rfl, h2, hc2⟩; obtain ⟨s2, o2, l2, c2, rfl⟩ := h2.form; have HB2 := hid1 h2; clear h2)
      | (go_at_call 65; (with_reducible refine (HT1.out _ _ _ (by first | assumption | (simp [go_sem]; done) | (simp [go_sem, *]; done)) (by first | assumption | (simp [go_sem]; done) | (simp [go_sem, *]; done))).mono ?_); rintro e X1 ⟨u1, rfl, h1, hc1⟩; obtain ⟨s1, o1, l1, c1, rfl⟩ := h1.form; have HB1 := hid1 h1; clear h1; (first | ((with_reducible have E := k2_C (W := w2) hc1); (with_reducible have F := k2_B (W := w2) hc1); obtain ⟨e0, e1⟩ := E; obtain ⟨f0, f1⟩ := F) | skip))
      | (go_at_call 64; (with_reducible refine (HC0.out _ _ _ (HB1.out.below (by repeat (first | (with_reducible exact Below.refl _ _) | (with_reducible refine bl_alloc ?_ _) | (with_reducible refine Below.drew ?_) | (with_reducible refine bl_drewN ?_ _) | (with_reducible refine bl_set ?_ (by omega) _) | (with_reducible refine bl_step ?_ (by assumption))))) HB2.out).mono ?_); rintro e X3 ⟨rfl, hc3⟩))
  all_goals go_wp2_with fail
  all_goals go_ret2
  all_goals refine ⟨rfl, ?_⟩
  all_goals repeat (first | (with_reducible exact Below.refl _ _) | (with_reducible refine bl_alloc ?_ _) | (with_reducible refine Below.drew ?_) | (with_reducible refine bl_drewN ?_ _) | (with_reducible refine bl_set ?_ (by omega) _) | (with_reducible refine bl_step ?_ (by assumption)))
end Go.Proofs.YtboabgjgcnkelabDoor
/- THE DOCUMENT'S REDUCE: its first loops. -/
namespace Go.Proofs.YtboabgjgcnkelabDoor
open Go.RowKit Go.Shelf
attribute [local go_sem ↓] Go.wp_at_zero Go.wp_at_succ

theorem sq_small {p : Int} (h1 : 2 ≤ p) (h2 : p ≤ 1100) : 4 ≤ p * p ∧ p * p ≤ 1210000 := by
  have a := Int.mul_le_mul h1 h1 (by decide) (by omega)
  have b := Int.mul_le_mul h2 h2 (by omega) (by decide)
  omega
theorem root_small {p d : Int} (h2 : p * p ≤ d) (hd : d ≤ 1048576) : p ≤ 1024 := by
  rcases Int.lt_or_le 1024 p with k | k
  · have := Int.mul_le_mul (show 1025 ≤ p by omega) (show 1025 ≤ p by omega) (by decide) (by omega)
    omega
  · exact k
theorem quo_ex {n p : Int} (hp : 2 ≤ p) (h : p ∣ n) (A : Int) (h1 : -A ≤ n) (h2 : n ≤ A) : n.tdiv p = n / p ∧ -A ≤ n / p ∧ n / p ≤ A := by
  refine ⟨Int.tdiv_eq_ediv_of_dvd h, ?_⟩
  obtain ⟨a, rfl⟩ := h
  rw [Int.mul_ediv_cancel_left _ (by omega)]
  rcases Int.lt_or_le a 0 with k | k
  · have := Int.mul_le_mul_of_nonneg_right (a := 2) (b := p) (c := -a) hp (by omega)
    simp only [Int.mul_neg] at this
    omega
  · have := Int.mul_le_mul_of_nonneg_right (a := 2) (b := p) (c := a) hp k
    omega
theorem rest_keep2 {n d p x r : Int} (hd : 0 < d) (h : NC n d p) (hp : d < p * p) (hp0 : 0 ≤ p) (hx : 2 ≤ x) (hxr : x ∣ r) (hxx : x * x ≤ d)
    (hg : 2 ≤ gd n d → gd n d ∣ r) : 2 ≤ gd n d → gd n d ∣ r / x := by
  intro g2
  obtain ⟨t, e⟩ := hg g2
  have gs := nc_sq h hp hp0 g2 (gd_dvd_n n d) (gd_dvd_d n d)
  have xl : x < gd n d := by
    rcases Int.lt_or_le x (gd n d) with k | k
    · exact k
    · have := sq_le (by omega) k; omega
  have cop : Int.gcd x (gd n d) = 1 := by
    have d1 : (Int.gcd x (gd n d) : Int) ∣ gd n d := Int.gcd_dvd_right _ _
    have d2 : (Int.gcd x (gd n d) : Int) ∣ x := Int.gcd_dvd_left _ _
    have pos := Int.gcd_pos_of_ne_zero_left (a := x) (gd n d) (by omega)
    rcases Nat.lt_or_ge (Int.gcd x (gd n d)) 2 with k | k
    · omega
    · have := gd_prime hd h hp hp0 d1 (by omega)
      have := Int.le_of_dvd (by omega) d2
      omega
  obtain ⟨s, es⟩ := cop_dvd cop (show x ∣ gd n d * t by rw [← e]; exact hxr)
  refine ⟨s, ?_⟩
  rw [e, es, Int.mul_left_comm, Int.mul_ediv_cancel_left _ (by omega)]
/-- What holds at the first loops' heads. -/
def R1 (n0 d0 n d p : Int) : Prop := 0 < d ∧ d ≤ 1048576 ∧ -2147483647 ≤ n ∧ n ≤ 2147483647 ∧ n * d0 = n0 * d ∧ 2 ≤ p ∧ p ≤ 1025 ∧ NC n d p
/-- And at the second ones'. -/
def R2 (n d r p : Int) : Prop := 0 < r ∧ r ≤ d ∧ 2 ≤ p ∧ p ≤ 1025 ∧ ND r p ∧ (2 ≤ gd n d → gd n d ∣ r)
theorem divides_yes {d n : Int} (hd : 2 ≤ d) (hd2 : d ≤ 2147483647) (h : d ∣ n) (w : World) :
    Calls Tryd.prog 63 #[.int .i64 d, .int .i64 n] w fun e w' => e = .returned (.bool true) ∧ w = w' := by
  refine (divides_any d n hd hd2 w).mono ?_
  rintro e w' ⟨rfl, rfl⟩
  exact ⟨by rw [decide_eq_true h], rfl⟩
theorem divides_no {d n : Int} (hd : 2 ≤ d) (hd2 : d ≤ 2147483647) (h : ¬ d ∣ n) (w : World) :
    Calls Tryd.prog 63 #[.int .i64 d, .int .i64 n] w fun e w' => e = .returned (.bool false) ∧ w = w' := by
  refine (divides_any d n hd hd2 w).mono ?_
  rintro e w' ⟨rfl, rfl⟩
  exact ⟨by rw [decide_eq_false h], rfl⟩
def Wy (w : World) (b : Nat) (n d : Int) : Prop := w.cell? ⟨b, 0, none⟩ = some (.int .i64 n) ∧ w.cell? ⟨b, 1, none⟩ = some (.int .i64 d) ∧ w.frozen? ⟨b, 0, none⟩ = false ∧ w.frozen? ⟨b, 1, none⟩ = false
theorem Wy.keep {w w' : World} {b : Nat} {n d : Int} (h : Wy w b n d) (hb : Below w.heap.size w w') : Wy w' b n d := by
  have z := lt_of_cell h.1
  exact ⟨keepc hb h.1, keepc hb h.2.1, keepf hb z h.2.2.1, keepf hb z h.2.2.2⟩
theorem wy_new {W : World} {t : TypeId} {g : Nat} {n d : Int} (hg : W.heap.size = g) : Wy (W.alloc (.cells #[.int .i64 n, .int .i64 d] t)) g n d := by
  subst hg
  exact ⟨by simp [go_sem], by simp [go_sem], by simp [go_sem], by simp [go_sem]⟩
set_option maxHeartbeats 3200000 in
set_option maxRecDepth 100000 in
theorem r4reduce_core (n0 d0 : Int) (hf : Fr n0 d0) (hn0 : ¬ n0 = 0) (w : World) :
    Calls Tryd.prog 43 #[fr n0 d0] w fun e w' => e = .returned (.tuple #[fr (rn n0 d0) (rd n0 d0), .int .i64 0]) ∧ Below w.heap.size w w' := by
  have HC := hid1 (r4check_any n0 d0)
  rw [chF_ok hf] at HC
  have f0 : 0 < d0 := by have := hf.1; omega
  have HR : Hid (R1 n0 d0 n0 d0 2) := hid1 ⟨f0, hf.2.1, hf.2.2.1, hf.2.2.2, rfl, by omega, by omega, nc_two _ _⟩
  have hn0b : (n0 == 0) = false := by simpa using hn0
  clear hf
  go_enter Tryd.func43, Tryd.ntmps43
  go_wp2_with fail
  refine (HC.out _).mono ?_
  rintro e w1 ⟨rfl, hb1⟩
  have HY : Hid (Wy w1 (w.heap.size + 1) 0 0) := hid1 (Wy.keep (w := (w.alloc _).alloc _) (wy_new (by simp)) hb1)
  have x0 := keepc hb1 (b := w.heap.size) (o := 0) (v := .int .i64 n0) (by simp [go_sem])
  have x1 := keepc hb1 (b := w.heap.size) (o := 1) (v := .int .i64 d0) (by simp [go_sem])
  have B1 : Below w.heap.size w w1 := by repeat (first | (with_reducible exact Below.refl _ _) | (with_reducible refine bl_alloc ?_ _) | (with_reducible refine Below.drew ?_) | (with_reducible refine bl_drewN ?_ _) | (with_reducible refine bl_set ?_ (by omega) _) | (with_reducible refine bl_step ?_ (by assumption)))
  clear hb1 HC
  go_wp2_with fail
  clear x0 x1
  go_loopw [4, 5, 6] (fun a b c wr => ∃ n d p : Int, a = .int .i64 n ∧ b = .int .i64 d ∧ c = .int .i64 p ∧ Hid (R1 n0 d0 n d p) ∧ Hid (w1 = wr)) (fun _ _ c _ => (1100 - intOf c).toNat)
  case atStart => exact ⟨n0, d0, 2, rfl, rfl, rfl, HR, hid1 (by first | rfl | trivial)⟩
  case round =>
    clear HR
    obtain ⟨n, d, p, rfl, rfl, rfl, HR1, HW1⟩ := hrel
    obtain rfl := HW1.out
    clear HW1
    obtain ⟨d1, d2, m1, m2, _, p1, p2, _⟩ := HR1.out
    obtain ⟨s1, s2⟩ := sq_small p1 (by omega)
    have e1 : wrap64 (p * p) = p * p := by unfold wrap64; omega
    obtain ⟨P, eP⟩ : ∃ P, p * p = P := ⟨_, rfl⟩
    by_cases hpp : P ≤ d
    · have HP := hid1 (root_small (p := p) (by rw [eP]; exact hpp) d2)
      rw [eP] at e1 s1 s2
      go_wp2_with fail
      clear hpp e1 s1 s2 eP
      go_loopw [4, 5] (fun a b wr => ∃ n d : Int, a = .int .i64 n ∧ b = .int .i64 d ∧ Hid (R1 n0 d0 n d p) ∧ Hid (w1 = wr)) (fun _ b _ => (intOf b).toNat)
      case atStart => exact ⟨n, d, rfl, rfl, HR1, hid1 (by first | rfl | trivial)⟩
      case round =>
        clear HR1 d1 d2 m1 m2
        obtain ⟨n, d, rfl, rfl, HR1, HW1⟩ := hrel
        obtain rfl := HW1.out
        clear HW1
        obtain ⟨d1, d2, m1, m2, hw, _, _, hnc⟩ := HR1.out
        have HW := hid1 hw
        have HNC := hid1 hnc
        clear hw hnc
        by_cases c1 : p ∣ d
        · by_cases c2 : p ∣ n
          · have V1 := hid1 (divides_yes (d := p) (n := d) p1 (by omega) c1)
            have V2 := hid1 (divides_yes (d := p) (n := n) p1 (by omega) c2)
            obtain ⟨q1, q2, q3⟩ := quo_ex p1 c2 2147483647 m1 m2
            obtain ⟨q4, q5, q6⟩ := quo_ex (A := 1048576) p1 c1 (by omega) d2
            obtain ⟨t1, t2⟩ := div_bd d1 p1 c1
            have HX : Hid (R1 n0 d0 (n / p) (d / p) p) := hid1 ⟨t1, by omega, q2, q3, worth_div (by omega) c2 c1 HW.out, p1, p2, nc_div HNC.out c2 c1⟩
            have r0 : ¬ p = 0 := by omega
            obtain ⟨N1, eN⟩ : ∃ N1, n / p = N1 := ⟨_, rfl⟩
            obtain ⟨D1, eD⟩ : ∃ D1, d / p = D1 := ⟨_, rfl⟩
            rw [eN, eD] at HX
            rw [eN] at q1 q2 q3
            rw [eD] at q4 q5 q6 t1 t2
            go_wp2_with fail
            refine (V1.out _).mono ?_
            rintro e wz ⟨rfl, rfl⟩
            go_wp2_with fail
            refine (V2.out _).mono ?_
            rintro e wz ⟨rfl, rfl⟩
            go_wp2_with fail
            exact ⟨⟨N1, D1, by first | rfl | (simp [*]; done), by first | rfl | (simp [*]; done), HX, hid1 (by first | rfl | trivial)⟩, by simp [intOf, *]; omega⟩
          · have V1 := hid1 (divides_yes (d := p) (n := d) p1 (by omega) c1)
            have V2 := hid1 (divides_no (d := p) (n := n) p1 (by omega) c2)
            have HX : Hid (R1 n0 d0 n d (p + 1)) := hid1 ⟨d1, d2, m1, m2, HW.out, by omega, by have := HP.out; omega, nc_next HNC.out (fun k => c2 k.2)⟩
            go_wp2_with fail
            refine (V1.out _).mono ?_
            rintro e wz ⟨rfl, rfl⟩
            go_wp2_with fail
            refine (V2.out _).mono ?_
            rintro e wz ⟨rfl, rfl⟩
            go_wp2_with fail
            exact ⟨⟨n, d, p + 1, rfl, rfl, rfl, HX, hid1 (by first | rfl | trivial)⟩, by simp [intOf]; omega⟩
        · have V1 := hid1 (divides_no (d := p) (n := d) p1 (by omega) c1)
          have HX : Hid (R1 n0 d0 n d (p + 1)) := hid1 ⟨d1, d2, m1, m2, HW.out, by omega, by have := HP.out; omega, nc_next HNC.out (fun k => c1 k.1)⟩
          go_wp2_with fail
          refine (V1.out _).mono ?_
          rintro e wz ⟨rfl, rfl⟩
          go_wp2_with fail
          exact ⟨⟨n, d, p + 1, rfl, rfl, rfl, HX, hid1 (by first | rfl | trivial)⟩, by simp [intOf]; omega⟩
    · have HPP : Hid (d < p * p) := hid1 (by rw [eP]; omega)
      rw [eP] at e1 s1 s2
      go_wp2_with fail
      clear hpp e1 s1 s2 eP
      have HR0 : Hid (R2 n d d 2) := hid1 ⟨d1, by omega, by omega, by omega, nd_two _, fun _ => gd_dvd_d n d⟩
      go_loopw [7, 8] (fun a c wr => ∃ r k : Int, a = .int .i64 r ∧ c = .int .i64 k ∧ Hid (R2 n d r k) ∧ Hid (w1 = wr)) (fun _ c _ => (1100 - intOf c).toNat)
      case atStart => exact ⟨d, 2, rfl, rfl, HR0, hid1 (by first | rfl | trivial)⟩
      case round =>
        clear HR0
        obtain ⟨r, k, rfl, rfl, HR2, HW1⟩ := hrel
        obtain rfl := HW1.out
        clear HW1
        obtain ⟨r1, r2, k1, k2, _, _⟩ := HR2.out
        obtain ⟨s1, s2⟩ := sq_small k1 (by omega)
        have e1 : wrap64 (k * k) = k * k := by unfold wrap64; omega
        obtain ⟨P, eP⟩ : ∃ P, k * k = P := ⟨_, rfl⟩
        by_cases hpp : P ≤ r
        · have HP := hid1 (root_small (p := k) (by rw [eP]; exact hpp) (by omega))
          have HKD : Hid (k * k ≤ d) := hid1 (by rw [eP]; omega)
          rw [eP] at e1 s1 s2
          go_wp2_with fail
          clear hpp e1 s1 s2 eP
          go_loopw [7] (fun a wr => ∃ r : Int, a = .int .i64 r ∧ Hid (R2 n d r k) ∧ Hid (w1 = wr)) (fun a _ => (intOf a).toNat)
          case atStart => exact ⟨r, rfl, HR2, hid1 (by first | rfl | trivial)⟩
          case round =>
            clear HR2 r1 r2
            obtain ⟨r, rfl, HR2, HW1⟩ := hrel
            obtain rfl := HW1.out
            clear HW1
            obtain ⟨r1, r2, _, _, hnd, hg⟩ := HR2.out
            have HND := hid1 hnd
            have HGG := hid1 hg
            clear hnd hg
            by_cases c1 : k ∣ r
            · have V1 := hid1 (divides_yes (d := k) (n := r) k1 (by omega) c1)
              obtain ⟨q4, q5, q6⟩ := quo_ex (A := 1048576) k1 c1 (by omega) (by omega)
              obtain ⟨t1, t2⟩ := div_bd r1 k1 c1
              have hx : 2 ≤ gd n d → gd n d ∣ r / k := rest_keep2 d1 HR1.out.2.2.2.2.2.2.2 HPP.out (by have := HR1.out.2.2.2.2.2.1; omega) k1 c1 HKD.out HGG.out
              have HX : Hid (R2 n d (r / k) k) := hid1 ⟨t1, by omega, k1, k2, nd_div HND.out c1, hx⟩
              have r0 : ¬ k = 0 := by omega
              obtain ⟨D1, eD⟩ : ∃ D1, r / k = D1 := ⟨_, rfl⟩
              rw [eD] at HX q4 q5 q6 t1 t2
              go_wp2_with fail
              refine (V1.out _).mono ?_
              rintro e wz ⟨rfl, rfl⟩
              go_wp2_with fail
              exact ⟨⟨D1, by first | rfl | (simp [*]; done), HX, hid1 (by first | rfl | trivial)⟩, by simp [intOf, *]; omega⟩
            · have V1 := hid1 (divides_no (d := k) (n := r) k1 (by omega) c1)
              have HX : Hid (R2 n d r (k + 1)) := hid1 ⟨r1, r2, by omega, by have := HP.out; omega, nd_next HND.out c1, HGG.out⟩
              go_wp2_with fail
              refine (V1.out _).mono ?_
              rintro e wz ⟨rfl, rfl⟩
              go_wp2_with fail
              exact ⟨⟨r, k + 1, rfl, rfl, HX, hid1 (by first | rfl | trivial)⟩, by simp [intOf]; omega⟩
        · rw [eP] at e1 s1 s2
          have hkk : r < k * k := by rw [eP]; omega
          have HKK := hid1 hkk
          clear hkk
          obtain ⟨r1, r2, _, _, _, _⟩ := HR2.out
          obtain ⟨d1, d2, m1, m2, _, _, _, _⟩ := HR1.out
          have HE := hid1 (ref_red (n := n) (d := d) (r := r) (k := k) (n0 := n0) (d0 := d0) f0 d1 HR1.out.2.2.2.2.1 r1 HKK.out HR2.out.2.2.1 HR2.out.2.2.2.2.1 HR2.out.2.2.2.2.2)
          obtain ⟨y0, y1, y2, y3⟩ := HY.out
          have zy := lt_of_cell y0
          by_cases hr : 1 < r
          · by_cases c1 : r ∣ n
            · by_cases c2 : r ∣ d
              · have V1 := hid1 (divides_yes (d := r) (n := n) (by omega) (by omega) c1)
                have V2 := hid1 (divides_yes (d := r) (n := d) (by omega) (by omega) c2)
                obtain ⟨q1, q2, q3⟩ := quo_ex (by omega) c1 2147483647 m1 m2
                obtain ⟨q4, q5, q6⟩ := quo_ex (A := 1048576) (by omega) c2 (by omega) d2
                have r0 : ¬ r = 0 := by omega
                have HG := hid1 (HE.out.1 ⟨hr, c1, c2⟩)
                have g1 := HG.out.1.symm
                have g2 := HG.out.2.symm
                obtain ⟨N1, eN⟩ : ∃ N1, n / r = N1 := ⟨_, rfl⟩
                obtain ⟨D1, eD⟩ : ∃ D1, d / r = D1 := ⟨_, rfl⟩
                rw [eN] at q1 q2 q3 g1
                rw [eD] at q4 q5 q6 g2
                go_wp2_with fail
                refine (V1.out _).mono ?_
                rintro e wz ⟨rfl, rfl⟩
                go_wp2_with fail
                refine (V2.out _).mono ?_
                rintro e wz ⟨rfl, rfl⟩
                go_wp2_with fail
                simp [bodyPost, results, Tryd.results43, go_sem, *]
                repeat (first | (with_reducible exact Below.refl _ _) | (with_reducible refine bl_alloc ?_ _) | (with_reducible refine Below.drew ?_) | (with_reducible refine bl_drewN ?_ _) | (with_reducible refine bl_set ?_ (by omega) _) | (with_reducible refine bl_step ?_ (by assumption)))
              · have V1 := hid1 (divides_yes (d := r) (n := n) (by omega) (by omega) c1)
                have V2 := hid1 (divides_no (d := r) (n := d) (by omega) (by omega) c2)
                have HG := hid1 (HE.out.2 (fun k => c2 k.2.2))
                have g1 := HG.out.1.symm
                have g2 := HG.out.2.symm
                go_wp2_with fail
                refine (V1.out _).mono ?_
                rintro e wz ⟨rfl, rfl⟩
                go_wp2_with fail
                refine (V2.out _).mono ?_
                rintro e wz ⟨rfl, rfl⟩
                go_wp2_with fail
                simp [bodyPost, results, Tryd.results43, go_sem, *]
                repeat (first | (with_reducible exact Below.refl _ _) | (with_reducible refine bl_alloc ?_ _) | (with_reducible refine Below.drew ?_) | (with_reducible refine bl_drewN ?_ _) | (with_reducible refine bl_set ?_ (by omega) _) | (with_reducible refine bl_step ?_ (by assumption)))
            · have V1 := hid1 (divides_no (d := r) (n := n) (by omega) (by omega) c1)
              have HG := hid1 (HE.out.2 (fun k => c1 k.2.1))
              have g1 := HG.out.1.symm
              have g2 := HG.out.2.symm
              go_wp2_with fail
              refine (V1.out _).mono ?_
              rintro e wz ⟨rfl, rfl⟩
              go_wp2_with fail
              simp [bodyPost, results, Tryd.results43, go_sem, *]
              repeat (first | (with_reducible exact Below.refl _ _) | (with_reducible refine bl_alloc ?_ _) | (with_reducible refine Below.drew ?_) | (with_reducible refine bl_drewN ?_ _) | (with_reducible refine bl_set ?_ (by omega) _) | (with_reducible refine bl_step ?_ (by assumption)))
          · have HG := hid1 (HE.out.2 (fun k => hr k.1))
            have g1 := HG.out.1.symm
            have g2 := HG.out.2.symm
            go_wp2
            simp [bodyPost, results, Tryd.results43, go_sem, *]
            repeat (first | (with_reducible exact Below.refl _ _) | (with_reducible refine bl_alloc ?_ _) | (with_reducible refine Below.drew ?_) | (with_reducible refine bl_drewN ?_ _) | (with_reducible refine bl_set ?_ (by omega) _) | (with_reducible refine bl_step ?_ (by assumption)))
end Go.Proofs.YtboabgjgcnkelabDoor
/- THE DOCUMENT'S REDUCE AND CMP: THE WHOLE. -/
namespace Go.Proofs.YtboabgjgcnkelabDoor
open Go.RowKit Go.Shelf
attribute [local go_sem ↓] Go.wp_at_zero Go.wp_at_succ

theorem cross_bd' {n d p q : Int} (h1 : Fr n d) (h2 : Fr p q) : -2251799812636672 ≤ n * q ∧ n * q ≤ 2251799812636672 :=
  bd_mul (A := 2147483647) (B := 1048576) h1.2.2 ⟨by have := h2.1; omega, h2.2.1⟩
theorem rn_zero (d : Int) : rn 0 d = 0 := by unfold rn; exact Int.zero_ediv _
theorem rd_zero {d : Int} (h : 0 < d) : rd 0 d = 1 := by
  unfold rd
  rw [gd_zero (by omega)]
  exact Int.ediv_self (by omega)
set_option maxRecDepth 100000 in
theorem r4reduce_zero (d0 : Int) (hf : Fr 0 d0) (w : World) :
    Calls Tryd.prog 43 #[fr 0 d0] w fun e w' => e = .returned (.tuple #[fr 0 1, .int .i64 0]) ∧ Below w.heap.size w w' := by
  have HC := hid1 (r4check_any 0 d0)
  rw [chF_ok hf] at HC
  clear hf
  go_enter Tryd.func43, Tryd.ntmps43
  go_wp2_with fail
  refine (HC.out _).mono ?_
  rintro e w1 ⟨rfl, hb1⟩
  have HY : Hid (Wy w1 (w.heap.size + 1) 0 0) := hid1 (Wy.keep (w := (w.alloc _).alloc _) (wy_new (by simp)) hb1)
  have x0 := keepc hb1 (b := w.heap.size) (o := 0) (v := .int .i64 0) (by simp [go_sem])
  have B1 : Below w.heap.size w w1 := by repeat (first | (with_reducible exact Below.refl _ _) | (with_reducible refine bl_alloc ?_ _) | (with_reducible refine Below.drew ?_) | (with_reducible refine bl_drewN ?_ _) | (with_reducible refine bl_set ?_ (by omega) _) | (with_reducible refine bl_step ?_ (by assumption)))
  clear hb1 HC
  obtain ⟨y0, y1, y2, y3⟩ := HY.out
  have zy := lt_of_cell y0
  go_wp2
  simp [bodyPost, results, Tryd.results43, go_sem, *]
  repeat (first | (with_reducible exact Below.refl _ _) | (with_reducible refine bl_alloc ?_ _) | (with_reducible refine Below.drew ?_) | (with_reducible refine bl_drewN ?_ _) | (with_reducible refine bl_set ?_ (by omega) _) | (with_reducible refine bl_step ?_ (by assumption)))
set_option maxRecDepth 100000 in
theorem r4reduce_no (n0 d0 : Int) (hf : ¬ Fr n0 d0) (w : World) :
    Calls Tryd.prog 43 #[fr n0 d0] w fun e w' => e = .returned (.tuple #[fr 0 0, .int .i64 40]) ∧ Below w.heap.size w w' := by
  have HC := hid1 (r4check_any n0 d0)
  rw [chF_no hf] at HC
  clear hf
  go_enter Tryd.func43, Tryd.ntmps43
  go_wp2_with fail
  refine (HC.out _).mono ?_
  rintro e w1 ⟨rfl, hb1⟩
  have HY : Hid (Wy w1 (w.heap.size + 1) 0 0) := hid1 (Wy.keep (w := (w.alloc _).alloc _) (wy_new (by simp)) hb1)
  have B1 : Below w.heap.size w w1 := by repeat (first | (with_reducible exact Below.refl _ _) | (with_reducible refine bl_alloc ?_ _) | (with_reducible refine Below.drew ?_) | (with_reducible refine bl_drewN ?_ _) | (with_reducible refine bl_set ?_ (by omega) _) | (with_reducible refine bl_step ?_ (by assumption)))
  clear hb1 HC
  obtain ⟨y0, y1, y2, y3⟩ := HY.out
  have zy := lt_of_cell y0
  go_wp2
  simp [bodyPost, results, Tryd.results43, go_sem, *]
  repeat (first | (with_reducible exact Below.refl _ _) | (with_reducible refine bl_alloc ?_ _) | (with_reducible refine Below.drew ?_) | (with_reducible refine bl_drewN ?_ _) | (with_reducible refine bl_set ?_ (by omega) _) | (with_reducible refine bl_step ?_ (by assumption)))
theorem r4reduce_any (n d : Int) (w : World) :
    Calls Tryd.prog 43 #[fr n d] w fun e w' => e = .returned (.tuple #[fr (rnV n d) (rdV n d), .int .i64 (chF n d)]) ∧ Below w.heap.size w w' := by
  unfold rnV rdV chF
  by_cases h : Fr n d
  · simp only [if_pos h]
    by_cases h0 : n = 0
    · subst h0
      have p : 0 < d := by have := h.1; omega
      rw [rn_zero, rd_zero p]
      exact r4reduce_zero d h w
    · exact r4reduce_core n d h h0 w
  · simp only [if_neg h]; exact r4reduce_no n d h w
set_option maxRecDepth 100000 in
theorem r4cmp_no1 (n d p q : Int) (h : ¬ Fr n d) (w : World) :
    Calls Tryd.prog 44 #[fr n d, fr p q] w fun e w' => e = .returned (.tuple #[.int .i64 0, .int .i64 40]) ∧ Below w.heap.size w w' := by
  have HC := hid1 (r4check_any n d)
  rw [chF_no h] at HC
  go_enter Tryd.func44, Tryd.ntmps44
  go_wp2_with fail
  refine (HC.out _).mono ?_
  rintro e w1 ⟨rfl, hb1⟩
  go_wp2
  go_ret2
  refine ⟨rfl, ?_⟩
  repeat (first | (with_reducible exact Below.refl _ _) | (with_reducible refine bl_alloc ?_ _) | (with_reducible refine Below.drew ?_) | (with_reducible refine bl_drewN ?_ _) | (with_reducible refine bl_set ?_ (by omega) _) | (with_reducible refine bl_step ?_ (by assumption)))
set_option maxRecDepth 100000 in
theorem r4cmp_no2 (n d p q : Int) (h : Fr n d) (h2 : ¬ Fr p q) (w : World) :
    Calls Tryd.prog 44 #[fr n d, fr p q] w fun e w' => e = .returned (.tuple #[.int .i64 0, .int .i64 40]) ∧ Below w.heap.size w w' := by
  have HC := hid1 (r4check_any n d)
  have HD := hid1 (r4check_any p q)
  rw [chF_ok h] at HC
  rw [chF_no h2] at HD
  go_enter Tryd.func44, Tryd.ntmps44
  go_wp2_with fail
  refine (HC.out _).mono ?_
  rintro e w1 ⟨rfl, hb1⟩
  have x0 := keepc hb1 (b := w.heap.size + 1) (o := 0) (v := .int .i64 p) (by simp [go_sem])
  have x1 := keepc hb1 (b := w.heap.size + 1) (o := 1) (v := .int .i64 q) (by simp [go_sem])
  go_wp2_with fail
  refine (HD.out _).mono ?_
  rintro e w2 ⟨rfl, hb2⟩
  go_wp2
  go_ret2
  refine ⟨rfl, ?_⟩
  repeat (first | (with_reducible exact Below.refl _ _) | (with_reducible refine bl_alloc ?_ _) | (with_reducible refine Below.drew ?_) | (with_reducible refine bl_drewN ?_ _) | (with_reducible refine bl_set ?_ (by omega) _) | (with_reducible refine bl_step ?_ (by assumption)))
theorem r4cmp_any (n d p q : Int) (w : World) :
    Calls Tryd.prog 44 #[fr n d, fr p q] w fun e w' => e = .returned (.tuple #[.int .i64 (cmF n d p q), .int .i64 (ceF n d p q)]) ∧ Below w.heap.size w w' := by
  unfold cmF ceF
  by_cases h : Fr n d
  · by_cases h2 : Fr p q
    · simp only [if_pos (show Fr n d ∧ Fr p q from ⟨h, h2⟩)]
      have HA := r4check_any n d
      have HB := r4check_any p q
      rw [chF_ok h] at HA
      rw [chF_ok h2] at HB
      obtain ⟨i1, i2⟩ := fr_i64 h
      obtain ⟨i3, i4⟩ := fr_i64 h2
      have m1 := cross_bd' h h2
      have m2 := cross_bd' h2 h
      exact r4cmp_core n d p q (n * q) (p * d) (cmpN (n * q) (p * d)) HA HB
        (fun w g cap h0 h1 => times2 n q i1 i4 ⟨by omega, by omega⟩ w g cap h0 h1) (fun w g cap h0 h1 => times2 p d i3 i2 ⟨by omega, by omega⟩ w g cap h0 h1)
        (fun y z w hy hz => sgn_cmp (n * q) (p * d) ▸ rcmp_any _ _ y z w hy hz (lt40 ⟨by omega, by omega⟩) (lt40 ⟨by omega, by omega⟩) _ rfl) w
    · simp only [if_neg (show ¬ (Fr n d ∧ Fr p q) from fun k => h2 k.2)]; exact r4cmp_no2 n d p q h h2 w
  · simp only [if_neg (show ¬ (Fr n d ∧ Fr p q) from fun k => h k.1)]; exact r4cmp_no1 n d p q h w
end Go.Proofs.YtboabgjgcnkelabDoor
