import Derived.Test.YtcjglbejmlebhaaDoorW7
import Derived.Test.YtcjglbejmlebhaaDoorM6
namespace Go.Proofs.YtcjglbejmlebhaaDoor
open Go.RowKit Go.Shelf

/-- What the listed variables hold. -/
structure Laid (w : World) : Prop where
  pow : Lib.TabIs Tryd.prog w "internal/strconv.uint64pow10" .u64 Lib.pow10Tab
  tens : Lib.TabIs Tryd.prog w "heddle/wide.tens" .u64 Lib.pow10Tab
theorem hgPow : Tryd.prog.globalNamed "internal/strconv.uint64pow10" = some 3 := by kernel_rfl
theorem hgTens : Tryd.prog.globalNamed "heddle/wide.tens" = some 0 := by kernel_rfl
theorem Laid.on {w w' : World} (h : Laid w) (hb : Below w.heap.size w w') : Laid w' :=
  ⟨Joins.tab_stays hgPow h.pow hb (Nat.le_refl _), Joins.tab_stays hgTens h.tens hb (Nat.le_refl _)⟩
theorem Laid.ten {w : World} (h : Laid w) (i : Nat) (hi : i < 20) : w.cell? ⟨0, i, none⟩ = some (.int .u64 ((10 ^ i : Nat) : Int)) := by
  rw [h.tens.cell hgTens i (by rw [Lib.pow10Tab_length]; exact hi), Lib.pow10Tab_at i hi]

theorem ret_str {a b : ByteArray} (h : a = b) : Ending.returned (.string a) = .returned (.string b) := by rw [h]
theorem bytes2 (a b : List UInt8) : (⟨a.toArray⟩ : ByteArray) ++ ⟨b.toArray⟩ = ⟨(a ++ b).toArray⟩ := by
  apply ByteArray.ext; simp
theorem bytes3 (a b c : List UInt8) : (⟨a.toArray⟩ : ByteArray) ++ ⟨b.toArray⟩ ++ ⟨c.toArray⟩ = ⟨(a ++ b ++ c).toArray⟩ := by rw [bytes2, bytes2]
theorem bytes4 (x a b c : List UInt8) : (⟨x.toArray⟩ : ByteArray) ++ (⟨a.toArray⟩ ++ ⟨b.toArray⟩ ++ ⟨c.toArray⟩) = ⟨(x ++ (a ++ b ++ c)).toArray⟩ := by rw [bytes2, bytes2, bytes2]
theorem repeat0 (c : Int) (h0 : 0 ≤ c) (h : c ≤ 19) (w : World) :
    Calls Tryd.prog 40 #[.string ⟨#[48]⟩, .int .i64 c] w fun e w' => e = .returned (.string ⟨(List.replicate c.toNat (48 : UInt8)).toArray⟩) ∧ Below w.heap.size w w' := by
  obtain ⟨c, rfl⟩ := Int.eq_ofNat_of_zero_le h0
  refine (Tryd.strings_Repeat ⟨#[48]⟩ c w (by omega) (by show 1 * c ≤ _; omega)).mono ?_
  rintro e w' ⟨rfl, hb⟩
  refine ⟨?_, hb⟩
  rw [rep_eq]; rfl

set_option maxRecDepth 100000 in
theorem show_large (n : Int) (hn : Rng n) (w : World) (L : Laid w) (h1 : (10 ^ 19 : Nat) ≤ absN n) :
    Calls Tryd.prog 12 #[wv n] w fun e w' => e = .returned (.string ⟨(showL n).toArray⟩) ∧ Below w.heap.size w w' := by
  go_enter Tryd.func12, Tryd.ntmps12
  go_wp2_with fail
  refine (sizeOf_any n hn _).mono ?_
  rintro e w1 ⟨rfl, hb1⟩
  have c0 := keepc hb1 (b := w.heap.size) (o := 0) (v := .int .i64 (hiOf n)) (by simp [go_sem])
  have z0 : w.heap.size < w1.heap.size := by have := hb1.size; simp at this; omega
  have L1 : Laid w1 := L.on (bl_step (bl_alloc (Below.refl _ _) _) hb1)
  obtain ⟨T, hT⟩ : ∃ T : Int, ((10 ^ 19 : Nat) : Int) = T := ⟨_, rfl⟩
  have c19 : ∀ o, (w1.alloc o).cell? ⟨0, 19, none⟩ = some (.int .u64 T) := fun o => by
    rw [← hT]; exact (L1.on (bl_alloc (Below.refl _ _) o)).ten 19 (by decide)
  obtain ⟨t1, t2, t3, t4, t5⟩ := show_math hn hT
  have HT := hid1 hT
  rw [hT] at h1
  clear hT
  go_wp2_with fail
  refine (div64_any _ _ T (hi_u64 (absN_siz hn)) (lo_u64 _) t1 t2 _).mono ?_
  rintro e w2 ⟨rfl, hb2⟩
  rw [hilo]
  have hb2' : Below w1.heap.size w1 w2 := bl_step (bl_alloc (Below.refl _ _) _) hb2
  have c0' := keepc hb2' c0
  have L2 : Laid w2 := L1.on hb2'
  clear c19 c0
  obtain ⟨F, hF⟩ : ∃ F, absN n / T = F := ⟨_, rfl⟩
  obtain ⟨K, hK⟩ : ∃ K, absN n % T = K := ⟨_, rfl⟩
  rw [hF] at t3
  rw [hK] at t4 t5
  rw [hF, hK]
  have HF := hid1 hF
  have HK := hid1 hK
  have f0 : (F != 0) = true := by rw [← hF]; exact front_pos h1 (by have := t5; have := t4.1; omega)
  clear hF hK
  go_wp2_with fail
  refine (format_any K t4 _ L2.pow).mono ?_
  rintro e w3 ⟨rfl, hb3⟩
  have c0 := keepc hb3 c0'
  have L3 : Laid w3 := L2.on hb3
  clear c0'
  have hk19 : K.toNat < 10 ^ 19 := by have := t4.1; have e := HT.out; omega
  have l1 := dec_len (k := 18) hk19
  have l2 := dec_len_pos K.toNat
  obtain ⟨B, hB⟩ : ∃ B, Lib.decDigits K.toNat = B := ⟨_, rfl⟩
  rw [hB] at l1 l2
  rw [hB]
  have HB := hid1 hB
  clear hB
  have l1' : (B.length : Int) ≤ 19 := by omega
  have l2' : 1 ≤ (B.length : Int) := by omega
  go_wp2_with fail
  refine (format_any F t3 _ L3.pow).mono ?_
  rintro e w4 ⟨rfl, hb4⟩
  have c0' := keepc hb4 c0
  have l3 : (Lib.decDigits F.toNat).length ≤ 20 := dec_len (k := 19) (by have := t3.1; have := t3.2; omega)
  obtain ⟨A, hA⟩ : ∃ A, Lib.decDigits F.toNat = A := ⟨_, rfl⟩
  rw [hA] at l3
  rw [hA]
  have HA := hid1 hA
  clear hA c0
  go_wp2_with fail
  refine (repeat0 _ (by omega) (by omega) _).mono ?_
  rintro e w5 ⟨rfl, hb5⟩
  have c0 := keepc hb5 c0'
  have eZ : ((19 : Int) - (B.length : Int)).toNat = 19 - B.length := by omega
  rw [eZ]
  have l4 : (List.replicate (19 - B.length) (48 : UInt8)).length ≤ 19 := by simp
  obtain ⟨Z, hZ⟩ : ∃ Z, List.replicate (19 - B.length) (48 : UInt8) = Z := ⟨_, rfl⟩
  rw [hZ] at l4
  rw [hZ]
  have HZ := hid1 hZ
  clear hZ eZ c0'
  have fin : A ++ Z ++ B = Lib.decDigits (absN n).toNat := by
    rw [abs_parts HT.out HF.out HK.out t3.1 t4.1, ← HA.out, ← HZ.out, ← HB.out]
    exact dec_glue (by have := t3.1; have h : F ≠ 0 := by simpa using f0
                       omega) hk19
  have FIN := hid1 fin
  clear fin
  by_cases hneg : n < 0
  · have s1 := hi_ngt hneg
    go_wp2
    go_ret
    refine ⟨ret_str (by rw [show_neg hneg, ← FIN.out]; exact bytes4 [45] A Z B), ?_⟩
    repeat (first | exact Below.refl _ _ | refine bl_alloc ?_ _ | refine Below.drew ?_ | refine bl_drewN ?_ _ | refine bl_set ?_ (by omega) _ | refine bl_step ?_ (by assumption))
  · have s1 := hi_nn (show 0 ≤ n by omega)
    go_wp2
    go_ret
    refine ⟨ret_str (by rw [show_pos (show ¬ n < 0 by omega), ← FIN.out]; exact bytes3 A Z B), ?_⟩
    repeat (first | exact Below.refl _ _ | refine bl_alloc ?_ _ | refine Below.drew ?_ | refine bl_drewN ?_ _ | refine bl_set ?_ (by omega) _ | refine bl_step ?_ (by assumption))

set_option maxRecDepth 100000 in
theorem show_small (n : Int) (hn : Rng n) (w : World) (L : Laid w) (h1 : absN n < (10 ^ 19 : Nat)) :
    Calls Tryd.prog 12 #[wv n] w fun e w' => e = .returned (.string ⟨(showL n).toArray⟩) ∧ Below w.heap.size w w' := by
  go_enter Tryd.func12, Tryd.ntmps12
  go_wp2_with fail
  refine (sizeOf_any n hn _).mono ?_
  rintro e w1 ⟨rfl, hb1⟩
  have c0 := keepc hb1 (b := w.heap.size) (o := 0) (v := .int .i64 (hiOf n)) (by simp [go_sem])
  have z0 : w.heap.size < w1.heap.size := by have := hb1.size; simp at this; omega
  have L1 : Laid w1 := L.on (bl_step (bl_alloc (Below.refl _ _) _) hb1)
  obtain ⟨T, hT⟩ : ∃ T : Int, ((10 ^ 19 : Nat) : Int) = T := ⟨_, rfl⟩
  have c19 : ∀ o, (w1.alloc o).cell? ⟨0, 19, none⟩ = some (.int .u64 T) := fun o => by
    rw [← hT]; exact (L1.on (bl_alloc (Below.refl _ _) o)).ten 19 (by decide)
  obtain ⟨t1, t2, t3, t4, t5⟩ := show_math hn hT
  have HT := hid1 hT
  rw [hT] at h1
  clear hT
  go_wp2_with fail
  refine (div64_any _ _ T (hi_u64 (absN_siz hn)) (lo_u64 _) t1 t2 _).mono ?_
  rintro e w2 ⟨rfl, hb2⟩
  rw [hilo]
  have hb2' : Below w1.heap.size w1 w2 := bl_step (bl_alloc (Below.refl _ _) _) hb2
  have c0' := keepc hb2' c0
  have L2 : Laid w2 := L1.on hb2'
  clear c19 c0
  obtain ⟨F, hF⟩ : ∃ F, absN n / T = F := ⟨_, rfl⟩
  obtain ⟨K, hK⟩ : ∃ K, absN n % T = K := ⟨_, rfl⟩
  rw [hF] at t3
  rw [hK] at t4 t5
  rw [hF, hK]
  have HF := hid1 hF
  have HK := hid1 hK
  have f0 : (F != 0) = false := by rw [← hF]; exact front_nil (absN_siz hn).1 h1
  clear hF hK
  go_wp2_with fail
  refine (format_any K t4 _ L2.pow).mono ?_
  rintro e w3 ⟨rfl, hb3⟩
  have c0 := keepc hb3 c0'
  have L3 : Laid w3 := L2.on hb3
  clear c0'
  have hk19 : K.toNat < 10 ^ 19 := by have := t4.1; have e := HT.out; omega
  have l1 := dec_len (k := 18) hk19
  have l2 := dec_len_pos K.toNat
  obtain ⟨B, hB⟩ : ∃ B, Lib.decDigits K.toNat = B := ⟨_, rfl⟩
  rw [hB] at l1 l2
  rw [hB]
  have HB := hid1 hB
  clear hB
  have l1' : (B.length : Int) ≤ 19 := by omega
  have l2' : 1 ≤ (B.length : Int) := by omega
  have fin : B = Lib.decDigits (absN n).toNat := by
    have e := abs_parts HT.out HF.out HK.out t3.1 t4.1
    have h0 : F = 0 := by simpa using f0
    subst h0
    rw [← HB.out, e]; simp
  have FIN := hid1 fin
  clear fin
  by_cases hneg : n < 0
  · have s1 := hi_ngt hneg
    go_wp2
    go_ret
    refine ⟨ret_str (by rw [show_neg hneg, ← FIN.out]; exact bytes2 [45] B), ?_⟩
    repeat (first | exact Below.refl _ _ | refine bl_alloc ?_ _ | refine Below.drew ?_ | refine bl_drewN ?_ _ | refine bl_set ?_ (by omega) _ | refine bl_step ?_ (by assumption))
  · have s1 := hi_nn (show 0 ≤ n by omega)
    go_wp2
    go_ret
    refine ⟨ret_str (by rw [show_pos (show ¬ n < 0 by omega), ← FIN.out]), ?_⟩
    repeat (first | exact Below.refl _ _ | refine bl_alloc ?_ _ | refine Below.drew ?_ | refine bl_drewN ?_ _ | refine bl_set ?_ (by omega) _ | refine bl_step ?_ (by assumption))
theorem show_any (n : Int) (hn : Rng n) (w : World) (L : Laid w) :
    Calls Tryd.prog 12 #[wv n] w fun e w' => e = .returned (.string ⟨(showL n).toArray⟩) ∧ Below w.heap.size w w' := by
  by_cases h : absN n < (10 ^ 19 : Nat)
  · exact show_small n hn w L h
  · exact show_large n hn w L (by omega)
end Go.Proofs.YtcjglbejmlebhaaDoor
