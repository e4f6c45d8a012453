/- READ: CUT AT ONE BYTE, NUMBERS PARSED. -/
import Derived.Test.YtboabgjgcnkelabDoorFW7
import Derived.Test.YtboabgjgcnkelabDoorFM4
import Derived.Lib.AtoiErrMem
namespace Go.Proofs.YtboabgjgcnkelabDoor
open Go.RowKit Go.Shelf
attribute [local go_sem ↓] Go.wp_at_zero Go.wp_at_succ

theorem ext_list {s : ByteArray} {i j : Nat} {l : List UInt8} (h : (s.data.toList.drop i).take (j - i) = l) : s.extract i j = ⟨l.toArray⟩ := by
  apply ByteArray.ext
  rw [ByteArray.data_extract]
  apply Array.ext'
  simp only [Array.toList_extract, List.extract_eq_take_drop]
  exact h
theorem lcut_no (s : ByteArray) (h : (47 : UInt8) ∉ s.data.toList) (w : World) :
    Calls Tryd.prog 37 #[.string s, .string ⟨#[47]⟩] w fun e w' => e = .returned (.tuple #[.string s, .string ⟨#[]⟩, .bool false]) ∧ w' = w := by
  have hi : Lib.indexByte s.data.toList 47 = -1 := by
    rcases index_cases 47 s.data.toList with ⟨h1, _⟩ | ⟨a, b, h1, _, _⟩
    · exact h1
    · exact absurd (by rw [h1]; simp) h
  have HI := hid1 (Tryd.stringslite_Index_one s 47)
  rw [hi] at HI
  clear hi h
  go_enter Tryd.func37, Tryd.ntmps37
  go_wp2_with fail
  refine (HI.out _).mono ?_
  rintro e w1 ⟨rfl, rfl⟩
  go_wp2
  simp [bodyPost, results, Tryd.results37, go_sem]
theorem lcut_yes (s : ByteArray) (a b : List UInt8) (hs : s.data.toList = a ++ 47 :: b) (ha : (47 : UInt8) ∉ a) (hl : s.size ≤ 281474976710656) (w : World) :
    Calls Tryd.prog 37 #[.string s, .string ⟨#[47]⟩] w fun e w' => e = .returned (.tuple #[.string ⟨a.toArray⟩, .string ⟨b.toArray⟩, .bool true]) ∧ ∃ n, w' = w.drewN n := by
  have hi : Lib.indexByte s.data.toList 47 = (a.length : Int) := by
    rcases index_cases 47 s.data.toList with ⟨_, h1⟩ | ⟨a', b', h1, h2, h3⟩
    · exact absurd (by rw [hs]; simp) h1
    · rw [h3, (split_uniq h2 ha (h1.symm.trans hs)).1]
  have HI := hid1 (Tryd.stringslite_Index_one s 47)
  rw [hi] at HI
  have hz : s.size = a.length + 1 + b.length := by
    have : s.size = s.data.toList.length := rfl
    rw [this, hs]; simp; omega
  obtain ⟨k, ek⟩ : ∃ k, a.length = k := ⟨_, rfl⟩
  rw [ek] at HI hz
  have k1 : k ≤ s.size := by omega
  have k2 : k + 1 ≤ s.size := by omega
  go_enter Tryd.func37, Tryd.ntmps37
  go_wp2_with fail
  refine (HI.out _).mono ?_
  rintro e w1 ⟨rfl, rfl⟩
  go_wp2_with fail
  go_quiet (fail)
  go_wp2
  simp [bodyPost, results, Tryd.results37, go_sem]
  refine ⟨⟨ext_list ?_, ext_list ?_⟩, _, rfl⟩
  · rw [hs, ← ek]; simp
  · have e1 : a ++ 47 :: b = (a ++ [47]) ++ b := by simp
    have e2 : k + 1 + b.length - (k + 1) = b.length := by omega
    rw [hs, e1, List.drop_left' (by simp [ek]), e2, List.take_length]
theorem cut_no (s : ByteArray) (h : (47 : UInt8) ∉ s.data.toList) (w : World) :
    Calls Tryd.prog 20 #[.string s, .string ⟨#[47]⟩] w fun e w' => e = .returned (.tuple #[.string s, .string ⟨#[]⟩, .bool false]) ∧ Below w.heap.size w w' := by
  go_enter Tryd.func20, Tryd.ntmps20
  go_wp2_with fail
  refine (lcut_no s h _).mono ?_
  rintro e w1 ⟨rfl, rfl⟩
  go_wp2
  simp [bodyPost, results, Tryd.results20, go_sem]
  exact Below.refl _ _
theorem cut_yes (s : ByteArray) (a b : List UInt8) (hs : s.data.toList = a ++ 47 :: b) (ha : (47 : UInt8) ∉ a) (hl : s.size ≤ 281474976710656) (w : World) :
    Calls Tryd.prog 20 #[.string s, .string ⟨#[47]⟩] w fun e w' => e = .returned (.tuple #[.string ⟨a.toArray⟩, .string ⟨b.toArray⟩, .bool true]) ∧ Below w.heap.size w w' := by
  go_enter Tryd.func20, Tryd.ntmps20
  go_wp2_with fail
  refine (lcut_yes s a b hs ha hl _).mono ?_
  rintro e w1 ⟨rfl, n, rfl⟩
  go_wp2
  simp [bodyPost, results, Tryd.results20, go_sem]
  repeat (first | exact Below.refl _ _ | refine bl_alloc ?_ _ | refine Below.drew ?_ | refine bl_drewN ?_ _ | refine bl_set ?_ (by omega) _ | refine bl_step ?_ (by assumption))
/-- What the listed variables hold. -/
structure LaidB (w : World) : Prop where
  pow : LaidP w
  syn : ∃ tp p, w.cell? ⟨2, 0, none⟩ = some (.iface tp p)
  rng : ∃ tp p, w.cell? ⟨3, 0, none⟩ = some (.iface tp p)
theorem LaidB.on {w w' : World} (h : LaidB w) (hb : Below w.heap.size w w') : LaidB w' := by
  obtain ⟨a, ⟨t, p, b⟩, ⟨t', p', c⟩⟩ := h
  exact ⟨a.on hb, ⟨t, p, keepc hb b⟩, ⟨t', p', keepc hb c⟩⟩
theorem parse_ok (s : ByteArray) (hl : s.size ≤ 281474976710656) (v : Int) (h : Lib.parseIntB 64 s.data.toList = .ok v) (w : World) :
    Calls Tryd.prog 21 #[.string s, .int .i64 10, .int .i64 64] w fun e w' => e = .returned (.tuple #[.int .i64 v, .nilIface]) ∧ Below w.heap.size w w' := by
  refine (Tryd.strconv_ParseInt_10_at64_ok s (by omega) v h w).mono ?_
  rintro e w' ⟨rfl, rfl | ⟨t, rfl⟩⟩
  · exact ⟨rfl, Below.refl _ _⟩
  · exact ⟨rfl, Lib.bytesWorld_below _ _ _⟩
theorem parse_no (s : ByteArray) (hl : s.size ≤ 281474976710656) (h : ∀ v, ¬ Lib.parseIntB 64 s.data.toList = .ok v) (w : World) (L : LaidB w) :
    Calls Tryd.prog 21 #[.string s, .int .i64 10, .int .i64 64] w fun e w' => ∃ v T N, e = .returned (.tuple #[.int .i64 v, .iface T (.pointer (some ⟨N, 0, none⟩))]) ∧ Below w.heap.size w w' := by
  cases k : Lib.parseIntB 64 s.data.toList with
  | ok v => exact absurd k (h v)
  | «syntax» =>
    obtain ⟨tp, p, hc⟩ := L.syn
    refine (Tryd.strconv_ParseInt_10_at64_syntax s hl k _ w hc (Or.inr ⟨_, _, rfl⟩)).mono ?_
    rintro e w' ⟨N, rfl, _, _, hb⟩
    exact ⟨_, _, _, rfl, hb⟩
  | range =>
    obtain ⟨tp, p, hc⟩ := L.rng
    refine (Tryd.strconv_ParseInt_10_at64_range s hl k _ w hc (Or.inr ⟨_, _, rfl⟩)).mono ?_
    rintro e w' ⟨N, rfl, _, _, hb⟩
    exact ⟨_, _, _, rfl, hb⟩
end Go.Proofs.YtboabgjgcnkelabDoor
