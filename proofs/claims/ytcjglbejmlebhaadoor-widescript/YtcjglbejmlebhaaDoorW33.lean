import Derived.Test.YtcjglbejmlebhaaDoorW32
import Derived.Test.YtcjglbejmlebhaaDoorM13
namespace Go.Proofs.YtcjglbejmlebhaaDoor
open Go.RowKit Go.Shelf
attribute [local go_sem ↓] Go.wp_at_zero Go.wp_at_succ

/-- The three blocks of Mul. -/
def Mb (w W : World) (s t : Bool) (ao bo : Option Addr) (la lb ca cb : Nat) : Prop :=
  W.cell? ⟨w.heap.size, 0, none⟩ = some (.bool s) ∧ W.cell? ⟨w.heap.size, 1, none⟩ = some (.slice ao la ca) ∧ W.cell? ⟨w.heap.size + 1, 0, none⟩ = some (.bool t) ∧ W.cell? ⟨w.heap.size + 1, 1, none⟩ = some (.slice bo lb cb) ∧ W.cell? ⟨w.heap.size + 2, 0, none⟩ = some (.bool false) ∧ W.cell? ⟨w.heap.size + 2, 1, none⟩ = some (.slice none 0 0) ∧ W.frozen? ⟨w.heap.size + 2, 0, none⟩ = false ∧ W.frozen? ⟨w.heap.size + 2, 1, none⟩ = false
theorem Mb.keep {w W W' : World} {s t : Bool} {ao bo : Option Addr} {la lb ca cb : Nat} (h : Mb w W s t ao bo la lb ca cb) (hb : Below W.heap.size W W') : Mb w W' s t ao bo la lb ca cb := by
  obtain ⟨h0, h1, h2, h3, h4, h5, h6, h7⟩ := h
  have lt := lt_of_cell h4
  exact ⟨keepc hb h0, keepc hb h1, keepc hb h2, keepc hb h3, keepc hb h4, keepc hb h5, keepf hb lt h6, keepf hb lt h7⟩
theorem mb_new (w : World) (s t : Bool) (ao bo : Option Addr) (la lb ca cb : Nat) (T1 T2 T3 : TypeId) :
    Mb w (((w.alloc (.cells #[.bool s, .slice ao la ca] T1)).alloc (.cells #[.bool t, .slice bo lb cb] T2)).alloc (.cells #[.bool false, .slice none 0 0] T3)) s t ao bo la lb ca cb := by
  refine ⟨?_, ?_, ?_, ?_, ?_, ?_, ?_, ?_⟩ <;> simp [go_sem]
set_option maxHeartbeats 6400000 in
set_option maxRecDepth 100000 in
theorem mul_digits (a b : List Int) (s t : Bool) (va vb : Value) (N : Int) (w : World) (ra : Rd w va a) (rb : Rd w vb b) (ha : Dg a) (hb : Dg b) (la : a.length ≤ 16) (lb : b.length ≤ 16)
    (hN : val a * val b = (N.natAbs : Int)) (hs : 0 < N → (!s == t) = false) (hs' : N < 0 → (!s == t) = true) :
    Calls Tryd.prog 47 #[.agg #[.bool s, va], .agg #[.bool t, vb]] w fun e w' => ∃ z, e = .returned z ∧ Bg w' z N ∧ Below w.heap.size w w' := by
  obtain ⟨i0, hi, hz0, hz1, hz2⟩ := info_parts info_int
  obtain ⟨ao, ca, rfl, rda⟩ := ra.parts
  obtain ⟨bo, cb, rfl, rdb⟩ := rb.parts
  have HA := hid1 ha
  have HB := hid1 hb
  have RA := hid1 rda
  have RB := hid1 rdb
  have HN := hid1 hN
  have HS := hid1 (And.intro hs hs')
  clear ha hb rda rdb ra rb hN hs hs'
  go_enter Tryd.func47, Tryd.ntmps47
  go_wp2_with fail
  go_loopw [5, 6] (fun dv iv wr => ∃ (i : Nat) (ds : List Int), i ≤ a.length ∧ iv = .int .i64 i ∧ Rd wr dv ds ∧ Dg ds ∧ val ds = val (a.take i) * val b ∧ ds.length ≤ i + b.length + 1 ∧ Below w.heap.size w wr ∧ Mb w wr s t ao bo a.length b.length ca cb) (fun _ iv _ => a.length - (intOf iv).toNat)
  case atStart => exact ⟨0, [], Nat.zero_le _, rfl, .inl ⟨rfl, rfl⟩, fun _ h => by simp at h, by simp [val], by simp, by repeat (first | exact Below.refl _ _ | refine bl_alloc ?_ _ | refine Below.drew ?_ | refine bl_drewN ?_ _ | refine bl_set ?_ (by omega) _ | refine bl_step ?_ (by assumption)), mb_new _ _ _ _ _ _ _ _ _ _ _ _⟩
  case round =>
    rename World => V
    obtain ⟨i, ds, hi1, rfl, rd, dd, hv, hl, hnx, mb⟩ := hrel
    have hsize := hnx.size
    have RD := hid1 rd
    have DD := hid1 dd
    have HV := hid1 hv
    have MB := hid1 mb
    obtain ⟨do_, dc, rfl, _⟩ := rd.parts
    clear rd dd hv
    have ii0 : (0 : Int) ≤ (i : Int) := by omega
    obtain ⟨m0, m1, m2, m3, m4, m5, m6, m7⟩ := mb
    by_cases hlt : i < a.length
    · have ii : (i : Int) < (a.length : Int) := by omega
      go_wp2_with fail
      go_loopw [7, 8] (fun rv kv wq => ∃ (j : Nat), j ≤ i ∧ kv = .int .i64 j ∧ wq.ownsRow V.heap.size 3 1 rv j (ivs (noughts j)) ∧ Below V.heap.size V wq) (fun _ kv _ => i - (intOf kv).toNat)
      case atStart => exact ⟨0, Nat.zero_le _, rfl, World.ownsRow_nil _ _ _ _, Below.refl _ _⟩
      case round =>
        rename World => wq
        obtain ⟨j, hj, rfl, hown, hq⟩ := hrel
        have hsq := hq.size
        obtain ⟨ro, rc, rfl⟩ := own_form hown
        clear m0 m1 m2 m3 m4 m5 m6 m7
        by_cases hlj : j < i
        · go_wp2_with (first | (at_builtin; refine wpList_append_own _ rfl _ _ 42 rfl V.heap.size 3 i0 (.int .i64 0) 1 8 und_ints hi hz0 hz1 hz2 rfl (by decide) _ _ _ rfl (hown.alloc _) ⟨wq.heap.size, 0, none⟩ 1 1 [.int .i64 0] rfl rfl (cell_one_new _ _ _) (fun x hx => by simp at hx; subst hx; rfl) (by unfold maxLen; omega) (by omega) (by simp; omega) ?_; intro v' w3 hown' hgrow3 hnil3))
          exact ⟨⟨j + 1, by omega, by go_num, by rw [noughts_snoc, ivs_snoc]; exact hown', (hq.alloc hsq _).grown hgrow3 (by simp; omega) (fun q hq => (hown.lt q hq).1)⟩, by simp [intOf]; omega⟩
        · have hji : i = j := by omega
          subst hji
          go_wp2_with fail
          go_loopw [7, 9, 10] (fun rv cv kv wz => ∃ (k : Nat), k ≤ b.length ∧ cv = .int .i64 (mcr (dat a i) b k) ∧ kv = .int .i64 k ∧ wz.ownsRow V.heap.size 3 1 rv (i + k) (ivs (noughts i ++ mrw (dat a i) b k)) ∧ Below V.heap.size V wz) (fun _ _ kv _ => b.length - (intOf kv).toNat)
          case atStart => exact ⟨0, Nat.zero_le _, rfl, rfl, by simpa [mrw] using hown, hq⟩
          case round =>
            clear hown hq hsq
            rename World => wz
            obtain ⟨k, hk, rfl, rfl, hown, hz⟩ := hrel
            have hsz := hz.size
            obtain ⟨ro', rc', rfl⟩ := own_form hown
            obtain ⟨m0, m1, m2, m3, m4, m5, m6, m7⟩ := MB.out.keep hz
            have kk0 : (0 : Int) ≤ (k : Int) := by omega
            obtain ⟨d1, d2⟩ := dat_bd HA.out i
            obtain ⟨o1, o2⟩ := mcr_bd ⟨d1, d2⟩ HB.out k
            by_cases hlk : k < b.length
            · have kk : (k : Int) < (b.length : Int) := by omega
              obtain ⟨ga, rfl, xa⟩ := RA.out i hlt
              obtain ⟨gb, rfl, xb⟩ := RB.out k hlk
              replace xa := keepc (bl_step hnx hz) xa
              replace xb := keepc (bl_step hnx hz) xb
              obtain ⟨d3, d4⟩ := dat_bd HB.out k
              have e1 : mrw (dat a i) b (k + 1) = mrw (dat a i) b k ++ [(mcr (dat a i) b k + dat a i * dat b k) % 65536] := rfl
              have e2 : mcr (dat a i) b (k + 1) = (mcr (dat a i) b k + dat a i * dat b k) / 65536 := rfl
              have H3 := hid1 e2
              have H4 := hid1 e1
              clear e1 e2
              obtain ⟨p1, p2⟩ := dig_mul ⟨d1, d2⟩ ⟨d3, d4⟩
              generalize mcr (dat a i) b k = o at *
              generalize dat b k = y at *
              generalize mrw (dat a i) b k = rw_ at *
              generalize dat a i = x at *
              have f1 : wrap64 (x * y) = x * y := by unfold wrap64; omega
              have f2 : wrap64 (o + x * y) = o + x * y := by unfold wrap64; omega
              have f3 : 0 ≤ o + x * y := by omega
              have f4 : o + x * y ≤ 9223372036854775807 := by omega
              go_wp2_with fail
              go_quiet (fail)
              go_wp2_with (first | (at_builtin; refine wpList_append_own _ rfl _ _ 42 rfl V.heap.size 3 i0 (.int .i64 0) 1 8 und_ints hi hz0 hz1 hz2 rfl (by decide) _ _ _ rfl ((own_below hown (bl_drewN (Below.refl _ _) _)).alloc _) ⟨wz.heap.size, 0, none⟩ 1 1 [.int .i64 ((o + x * y) % 65536)] rfl rfl (cell_one_new _ _ _) (fun x hx => by simp at hx; subst hx; rfl) (by unfold maxLen; omega) (by omega) (by simp; omega) ?_; intro v' w3 hown' hgrow3 hnil3))
              exact ⟨⟨k + 1, by omega, by rw [H3.out], by go_num, by rw [H4.out, ← List.append_assoc, ivs_snoc]; exact hown', ((bl_drewN hz _).alloc hsz _).grown hgrow3 (by simp; omega) (fun q hq => (hown.lt q hq).1)⟩, by simp [intOf]; omega⟩
            · have hkb : b.length = k := by omega
              subst hkb
              have ew : noughts i ++ mrw (dat a i) b b.length ++ [mcr (dat a i) b b.length] = wrow (dat a i) b i := rfl
              have EW := hid1 ew
              clear ew
              have DW := hid1 (wrow_dg ⟨d1, d2⟩ HB.out i)
              have VW := hid1 (wrow_val (dat a i) b i)
              have LW := wrow_len (dat a i) b i
              generalize mcr (dat a i) b b.length = o at *
              generalize mrw (dat a i) b b.length = rw_ at *
              generalize wrow (dat a i) b i = W_ at *
              go_wp2_with (first | (at_builtin; refine wpList_append_own _ rfl _ _ 42 rfl V.heap.size 3 i0 (.int .i64 0) 1 8 und_ints hi hz0 hz1 hz2 rfl (by decide) _ _ _ rfl (hown.alloc _) ⟨wz.heap.size, 0, none⟩ 1 1 [.int .i64 o] rfl rfl (cell_one_new _ _ _) (fun x hx => by simp at hx; subst hx; rfl) (by unfold maxLen; omega) (by omega) (by simp; omega) ?_; intro v' w3 hown' hgrow3 hnil3))
              have hB3 : Below V.heap.size V w3 := (hz.alloc hsz _).grown hgrow3 (by simp; omega) (fun q hq => (hown.lt q hq).1)
              have RW : Rd w3 v' W_ := Rd.own (base := V.heap.size) (n := i + b.length + 1) (by rw [← EW.out, ivs_snoc]; exact hown')
              have HB3 := hid1 hB3
              clear hgrow3 hnil3 hown'
              refine (plus_digits ds W_ _ _ _ (RD.out.below HB3.out) RW DD.out DW.out (by omega) (by omega)).mono ?_
              rintro e w4 ⟨v4, rfl, ds4, own4, dg4, val4, len4, hb4⟩
              have G4 := hid1 (And.intro own4 (And.intro dg4 (And.intro val4 (And.intro len4 hb4))))
              obtain ⟨o4, c4, rfl⟩ := own_form own4
              clear own4 dg4 val4 len4 hb4 RW
              go_wp2_with fail
              obtain ⟨own4, dg4, val4, len4, hb4⟩ := G4.out
              have B4 := bl_step hB3 hb4
              exact ⟨⟨i + 1, ds4, by omega, by go_num, Rd.own own4, dg4, by rw [val4, VW.out]; exact mul_next HV.out, by unfold top at len4; omega, bl_step hnx B4, MB.out.keep B4⟩, by simp [intOf]; omega⟩
    · have hia : a.length = i := by omega
      subst hia
      have hv : val ds = (N.natAbs : Int) := by
        have := HV.out
        rw [List.take_length] at this
        rw [this]; exact HN.out
      have HV2 := hid1 hv
      clear hv
      go_wp2_with fail
      refine (trim_num N _ _ ds _ RD.out DD.out HV2.out HS.out.1 HS.out.2).mono ?_
      rintro e w5 ⟨y5, s5, ao5, l5, cap5, rfl, rfl, hy5, hb5⟩
      have HY5 := hid1 hy5
      clear hy5 m0 m1 m2 m3 m4 m5 m6 m7
      obtain ⟨-, -, -, -, m4, m5, m6, m7⟩ := MB.out.keep hb5
      have hBB := hid1 (bl_step hnx hb5)
      clear hb5
      go_wp2_with fail
      simp [bodyPost, results, Tryd.results47, go_sem, m4, m5]
      exact big_ret HY5.out hBB.out (by omega) ⟨_, m4⟩ _ _
theorem rmul_any (m n : Int) (x y : Value) (w : World) (hx : Bg w x m) (hy : Bg w y n) (hm : (m.natAbs : Int) < 65536 ^ 16) (hn : (n.natAbs : Int) < 65536 ^ 16) :
    Calls Tryd.prog 47 #[x, y] w fun e w' => ∃ z, e = .returned z ∧ Bg w' z (m * n) ∧ Below w.heap.size w w' := by
  obtain ⟨va, a, rfl, ra, da, ta, ea⟩ := hx
  obtain ⟨vb, b, rfl, rb, db, tb, eb⟩ := hy
  have la : a.length ≤ 16 := len_le da ta (by rw [ea]; exact hm)
  have lb : b.length ≤ 16 := len_le db tb (by rw [eb]; exact hn)
  refine mul_digits a b _ _ va vb (m * n) w ra rb da db la lb (by rw [ea, eb, Int.natAbs_mul]; simp) (fun h => ?_) (fun h => ?_)
  · rcases Int.lt_trichotomy m 0 with h1 | h1 | h1
    · have h2 : n < 0 := by
        rcases Int.lt_trichotomy n 0 with h2 | h2 | h2
        · exact h2
        · subst h2; simp at h
        · have := Int.mul_neg_of_neg_of_pos h1 h2; omega
      simp [h1, h2]
    · subst h1; simp at h
    · have h2 : 0 < n := by
        rcases Int.lt_trichotomy n 0 with h2 | h2 | h2
        · have := Int.mul_neg_of_pos_of_neg h1 h2; omega
        · subst h2; simp at h
        · exact h2
      have h3 : ¬ m < 0 := by omega
      have h4 : ¬ n < 0 := by omega
      simp [h3, h4]
  · rcases Int.lt_trichotomy m 0 with h1 | h1 | h1
    · have h2 : 0 < n := by
        rcases Int.lt_trichotomy n 0 with h2 | h2 | h2
        · have := Int.mul_pos_of_neg_of_neg h1 h2; omega
        · subst h2; simp at h
        · exact h2
      have h4 : ¬ n < 0 := by omega
      simp [h1, h4]
    · subst h1; simp at h
    · have h2 : n < 0 := by
        rcases Int.lt_trichotomy n 0 with h2 | h2 | h2
        · exact h2
        · subst h2; simp at h
        · have := Int.mul_pos h1 h2; omega
      have h3 : ¬ m < 0 := by omega
      simp [h3, h2]
end Go.Proofs.YtcjglbejmlebhaaDoor
