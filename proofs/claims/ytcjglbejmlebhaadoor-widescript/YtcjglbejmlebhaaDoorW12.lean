import Derived.Test.YtcjglbejmlebhaaDoorW11
import Derived.Test.YtcjglbejmlebhaaDoorM8
namespace Go.Proofs.YtcjglbejmlebhaaDoor
open Go.RowKit Go.Shelf

theorem isw_any (d : List UInt8) (hs : d.length ≤ maxLen) (w : World) :
    Calls Tryd.prog 43 #[.string ⟨d.toArray⟩] w fun e w' => e = .returned (.bool (isWr d)) ∧ w' = w := by
  match d with
  | [] => exact isw_empty _ rfl w
  | c :: r =>
    have hl : (⟨(c :: r).toArray⟩ : ByteArray).size = (c :: r).length := by rw [size_len]
    by_cases h : c = 48 ∧ r ≠ []
    · obtain ⟨rfl, hr⟩ := h
      obtain ⟨c2, r2, rfl⟩ := List.exists_cons_of_ne_nil hr
      have e : isWr (48 :: c2 :: r2) = false := by simp [isWr]
      rw [e]
      exact isw_nought _ c2 r2 rfl w
    · refine (isw_loop ⟨(c :: r).toArray⟩ (by rw [hl]; exact hs) (by rw [hl]; simp) ?_ w).mono ?_
      · by_cases hc : c = 48
        · subst hc
          have hr : r = [] := Classical.not_not.1 fun hr => h ⟨rfl, hr⟩
          subst hr
          exact .inr ⟨rfl, by rw [blist]; rfl⟩
        · left
          intro e
          apply hc
          have e2 : c.toNat = 48 := by
            have e3 : ((⟨(c :: r).toArray⟩ : ByteArray)[0]'(by rw [hl]; simp)).toNat = c.toNat := rfl
            omega
          exact UInt8.toNat.inj e2
      · rintro e w' ⟨rfl, rfl⟩
        refine ⟨?_, rfl⟩
        have e : isWr (c :: r) = allD ⟨(c :: r).toArray⟩ := by
          have h2 : (c != 48 || r == []) = true := by
            by_cases hc : c = 48
            · have hr : r = [] := Classical.not_not.1 fun hr => h ⟨hc, hr⟩
              simp [hr]
            · simp [hc]
          show ((c != 48 || r == []) && (c :: r).all isDig) = _
          rw [h2]; rfl
        rw [e]

theorem far_offN {n : Int} (minus : Bool) (h0 : 0 ≤ n) (h : ¬ Siz n) : ¬ Rng (sgN n minus) := far_off minus h0 h
theorem cut_any (s : ByteArray) (w : World) :
    Calls Tryd.prog 42 #[.string s, .string ⟨#[45]⟩] w fun e w' => e = .returned (.tuple #[.string ⟨(cutRest s.data.toList).toArray⟩, .bool (cutNeg s.data.toList)]) ∧ w' = w := by
  refine (Tryd.strings_CutPrefix s ⟨#[45]⟩ w).mono ?_
  rintro e w' ⟨rfl, rfl⟩
  refine ⟨?_, rfl⟩
  have e1 : Lib.hasPrefix s.data.toList [45] = cutNeg s.data.toList := by
    cases s.data.toList with
    | nil => rfl
    | cons c r =>
      show ((45 : UInt8) == c && List.isPrefixOf [] r) = (c == 45)
      rw [Bool.beq_comm]; cases r <;> simp [List.isPrefixOf]
  have e2 : Lib.trimPrefix s.data.toList [45] = cutRest s.data.toList := by
    unfold Lib.trimPrefix cutRest
    rw [e1]; split
    · rw [← List.drop_one]; rfl
    · rfl
  show Ending.returned (.tuple #[.string ⟨(Lib.trimPrefix s.data.toList [45]).toArray⟩, .bool (Lib.hasPrefix s.data.toList [45])]) = _
  rw [e1, e2]

set_option maxRecDepth 100000 in
theorem read_arg1 (s : ByteArray) (w : World) (d : List UInt8) (hd : cutRest s.data.toList = d) (hdl : d.length ≤ maxLen) (hw : isWr d = false) (neg : Bool) (hneg : cutNeg s.data.toList = neg) :
    Calls Tryd.prog 14 #[.string s] w fun e w' => e = .returned (.tuple #[wv 0, .int .i64 1]) ∧ Below w.heap.size w w' := by
  go_enter Tryd.func14, Tryd.ntmps14
  go_wp2_with fail
  refine (cut_any s _).mono ?_
  rintro e w1 ⟨rfl, rfl⟩
  rw [hd, hneg]
  go_wp2_with fail
  refine (isw_any d hdl _).mono ?_
  rintro e w1 ⟨rfl, rfl⟩
  rw [hw]
  clear hd hneg
  go_wp2_with fail
  simp [bodyPost, results, Tryd.results14, go_sem, hi0, lo0]
  repeat (first | exact Below.refl _ _ | refine bl_alloc ?_ _ | refine Below.drew ?_ | refine bl_drewN ?_ _ | refine bl_set ?_ (by omega) _ | refine bl_step ?_ (by assumption))
set_option maxRecDepth 100000 in
theorem read_arg2 (s : ByteArray) (w : World) (d : List UInt8) (hd : cutRest s.data.toList = d) (hdl : d.length ≤ maxLen) (hw : isWr d = true) (hneg : cutNeg s.data.toList = true) (hn : (d == [48]) = true) :
    Calls Tryd.prog 14 #[.string s] w fun e w' => e = .returned (.tuple #[wv 0, .int .i64 1]) ∧ Below w.heap.size w w' := by
  go_enter Tryd.func14, Tryd.ntmps14
  go_wp2_with fail
  refine (cut_any s _).mono ?_
  rintro e w1 ⟨rfl, rfl⟩
  rw [hd, hneg]
  go_wp2_with fail
  refine (isw_any d hdl _).mono ?_
  rintro e w1 ⟨rfl, rfl⟩
  rw [hw]
  clear hd hneg
  go_wp2_with fail
  simp [bodyPost, results, Tryd.results14, go_sem, hi0, lo0]
  repeat (first | exact Below.refl _ _ | refine bl_alloc ?_ _ | refine Below.drew ?_ | refine bl_drewN ?_ _ | refine bl_set ?_ (by omega) _ | refine bl_step ?_ (by assumption))
set_option maxRecDepth 100000 in
theorem read_go (s : ByteArray) (w : World) (L : Laid w) (d : List UInt8) (hd : cutRest s.data.toList = d) (hdl : d.length ≤ maxLen) (hw : isWr d = true) (neg : Bool) (hneg : cutNeg s.data.toList = neg) (hn : neg = false ∨ (neg = true ∧ (d == [48]) = false)) :
    Calls Tryd.prog 14 #[.string s] w fun e w' => e = .returned (.tuple #[wv (fitV (sgN (valD 0 d) neg)), .int .i64 (errV (sgN (valD 0 d) neg))]) ∧ Below w.heap.size w w' := by
  have hall := isWr_all hw
  have HA := hid1 hall
  have HL := hid1 L
  clear hall L
  go_enter Tryd.func14, Tryd.ntmps14
  go_wp2_with fail
  refine (cut_any s _).mono ?_
  rintro e w1 ⟨rfl, rfl⟩
  rw [hd, hneg]
  go_wp2_with fail
  refine (isw_any d hdl _).mono ?_
  rintro e w1 ⟨rfl, rfl⟩
  rw [hw]
  clear hd hneg
  rcases hn with rfl | ⟨rfl, hn⟩
  all_goals
    go_wp2_with fail
    refine (sizeDigits ⟨d.toArray⟩ HA.out _ (HL.out.on (bl_alloc (Below.refl _ _) _))).mono ?_
    rintro e w1 ⟨he, hb1⟩
    have c0 := keepc hb1 (b := w.heap.size) (o := 0) (v := .int .i64 0) (by simp [go_sem])
    have c1 := keepc hb1 (b := w.heap.size) (o := 1) (v := .int .u64 0) (by simp [go_sem])
    have f0 := keepf hb1 (b := w.heap.size) (o := 0) (by simp) (by simp [go_sem])
    have f1 := keepf hb1 (b := w.heap.size) (o := 1) (by simp) (by simp [go_sem])
    have z0 : w.heap.size < w1.heap.size := by have := hb1.size; simp at this; omega
    rcases he with ⟨hS, rfl⟩ | ⟨hS, v1, rfl⟩
    · have hS' : Siz (valD 0 d) := hS
      go_wp2_with fail
      refine (signed_any (valD 0 d) _ hS' _).mono ?_
      rintro e w2 ⟨rfl, hb2⟩
      have hb2' : Below w1.heap.size w1 w2 := bl_step (bl_alloc (Below.refl _ _) _) hb2
      have d0 := keepc hb2' c0; have d1 := keepc hb2' c1
      have g0 := keepf hb2' z0 f0; have g1 := keepf hb2' z0 f1
      clear c0 c1 f0 f1 hS hS'
      go_wp2_with fail
      simp [bodyPost, results, Tryd.results14, go_sem, d0, d1]
      repeat (first | exact Below.refl _ _ | refine bl_alloc ?_ _ | refine Below.drew ?_ | refine bl_drewN ?_ _ | refine bl_set ?_ (by omega) _ | refine bl_step ?_ (by assumption))
    · have hS' : ¬ Siz (valD 0 d) := hS
      have hb := (valD_bd d HA.out).1
      clear hS
      go_wp2_with fail
      rw [fitV_no (far_offN _ hb hS'), errV_no (far_offN _ hb hS')]
      simp [bodyPost, results, Tryd.results14, go_sem, hi0, lo0, z0, c0, c1]
      repeat (first | exact Below.refl _ _ | refine bl_alloc ?_ _ | refine Below.drew ?_ | refine bl_drewN ?_ _ | refine bl_set ?_ (by omega) _ | refine bl_step ?_ (by assumption))
theorem cut_len (l : List UInt8) : (cutRest l).length ≤ l.length := by
  unfold cutRest; split
  · simp
  · exact Nat.le_refl _
theorem read_any (s : ByteArray) (hs : s.size ≤ maxLen) (w : World) (L : Laid w) :
    Calls Tryd.prog 14 #[.string s] w fun e w' => e = .returned (.tuple #[wv (readV s.data.toList), .int .i64 (readE s.data.toList)]) ∧ Below w.heap.size w w' := by
  have hl : (cutRest s.data.toList).length ≤ maxLen := Nat.le_trans (cut_len _) (by rw [← size_len]; exact hs)
  by_cases hw : isWr (cutRest s.data.toList) = true
  · by_cases hn : (cutNeg s.data.toList && (cutRest s.data.toList == [48])) = true
    · have hb : readOk s.data.toList = false := by simp only [readOk, hw, hn]; rfl
      rw [(read_bad hb).1, (read_bad hb).2]
      rw [Bool.and_eq_true] at hn
      exact read_arg2 s w _ rfl hl hw hn.1 hn.2
    · have hn' : (cutNeg s.data.toList && (cutRest s.data.toList == [48])) = false := by simpa using hn
      have hb : readOk s.data.toList = true := by simp only [readOk, hw, hn']; rfl
      rw [(read_good hb).1, (read_good hb).2]
      refine read_go s w L _ rfl hl hw _ rfl ?_
      cases h : cutNeg s.data.toList
      · exact .inl rfl
      · rw [h] at hn'; exact .inr ⟨rfl, by simpa using hn'⟩
  · have hw' : isWr (cutRest s.data.toList) = false := by simpa using hw
    have hb : readOk s.data.toList = false := by simp only [readOk, hw']; rfl
    rw [(read_bad hb).1, (read_bad hb).2]
    exact read_arg1 s w _ rfl hl hw' _ rfl
end Go.Proofs.YtcjglbejmlebhaaDoor
