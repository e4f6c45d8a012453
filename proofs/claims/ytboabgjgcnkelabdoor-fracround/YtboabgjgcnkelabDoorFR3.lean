/- READ: THE FRACTION WHOSE SHOW IT IS, OR NONE. -/
import Derived.Test.YtboabgjgcnkelabDoorFR2
namespace Go.Proofs.YtboabgjgcnkelabDoor
open Go.RowKit Go.Shelf

theorem ba_eq {s : ByteArray} {l : List UInt8} (h : s.data.toList = l) : s = ⟨l.toArray⟩ := by
  apply ByteArray.ext
  apply Array.ext'
  simpa using h
theorem ba_ne {t s : ByteArray} {l : List UInt8} (ht : t = ⟨l.toArray⟩) (h : ¬ l = s.data.toList) : (t.toList == s.toList) = false := by
  rw [Lib.toList_data, Lib.toList_data, ht]
  simpa using h
theorem itoa_one : Lib.itoa 1 = [49] := by decide +kernel
theorem parse_one : Lib.parseIntB 64 (⟨#[49]⟩ : ByteArray).data.toList = .ok 1 := by decide +kernel
theorem fread_good (s : ByteArray) (hl : s.size ≤ 281474976710656) (n d : Int) (hf : Fr n d) (hs : s.data.toList = shL n d) (w : World) (L : LaidB w) :
    Calls Tryd.prog 9 #[.string s] w fun e w' => e = .returned (.tuple #[fr n d, .int .i64 0]) ∧ Below w.heap.size w w' := by
  have pn : Lib.parseIntB 64 (Lib.itoa n) = .ok n := parse_itoa hf.2.2.1 hf.2.2.2
  have pd : Lib.parseIntB 64 (Lib.itoa d) = .ok d := parse_itoa (by have := hf.1; omega) (by have := hf.2.1; omega)
  have HS := fshow_ok n d hf
  rw [← ba_eq hs] at HS
  by_cases hd : d = 1
  · subst hd
    have e : s.data.toList = Lib.itoa n := by rw [hs]; unfold shL; rw [if_pos rfl]
    have h47 : (47 : UInt8) ∉ s.data.toList := by rw [e]; exact itoa_stroke n
    exact read_f_ok_ok_good s s n 1 (hid1 (cut_no s h47)) (hid1 (parse_ok s hl n (by rw [e]; exact pn))) (hid1 (parse_ok _ (by decide) 1 parse_one)) (hid1 HS) w L
  · have e : s.data.toList = Lib.itoa n ++ 47 :: Lib.itoa d := by rw [hs]; unfold shL; rw [if_neg hd]
    have hz : s.size = (Lib.itoa n).length + 1 + (Lib.itoa d).length := by
      have : s.size = s.data.toList.length := rfl
      rw [this, e]; simp; omega
    have z1 : (⟨(Lib.itoa n).toArray⟩ : ByteArray).size = (Lib.itoa n).length := rfl
    have z2 : (⟨(Lib.itoa d).toArray⟩ : ByteArray).size = (Lib.itoa d).length := rfl
    exact read_t_ok_ok_good s ⟨(Lib.itoa n).toArray⟩ ⟨(Lib.itoa d).toArray⟩ n d (hid1 (cut_yes s _ _ e (itoa_stroke n) hl)) (hid1 (parse_ok _ (by omega) n pn)) (hid1 (parse_ok _ (by omega) d pd)) (hid1 HS) w L
theorem fread_bad (s : ByteArray) (hl : s.size ≤ 281474976710656) (h : ∀ n d, Fr n d → ¬ shL n d = s.data.toList) (w : World) (L : LaidB w) :
    Calls Tryd.prog 9 #[.string s] w fun e w' => e = .returned (.tuple #[fr 0 0, .int .i64 40]) ∧ Below w.heap.size w w' := by
  rcases index_cases 47 s.data.toList with ⟨_, h1⟩ | ⟨a, b, h1, h2, _⟩
  · have HC := hid1 (cut_no s h1)
    have P1 := hid1 (parse_ok ⟨#[49]⟩ (by decide) 1 parse_one)
    by_cases k : ∃ n, Lib.parseIntB 64 s.data.toList = .ok n
    · obtain ⟨n, k⟩ := k
      have PA := hid1 (parse_ok s hl n k)
      by_cases hf : Fr n 1
      · exact read_f_ok_ok_other s s _ n 1 HC PA P1 (hid1 (fshow_ok n 1 hf)) (ba_ne rfl (h n 1 hf)) w L
      · exact read_f_ok_ok_bad s s _ n 1 HC PA P1 (hid1 (fun w _ => fshow_no n 1 hf w)) w L
    · have PA := hid1 (parse_no s hl (fun v e => k ⟨v, e⟩))
      exact read_f_no_ok_x s s 1 HC PA P1 w L
  · have hz : s.size = a.length + 1 + b.length := by
      have : s.size = s.data.toList.length := rfl
      rw [this, h1]; simp; omega
    have z1 : (⟨a.toArray⟩ : ByteArray).size = a.length := rfl
    have z2 : (⟨b.toArray⟩ : ByteArray).size = b.length := rfl
    have HC := hid1 (cut_yes s a b h1 h2 hl)
    by_cases k : ∃ n, Lib.parseIntB 64 a = .ok n
    · obtain ⟨n, k⟩ := k
      have PA := hid1 (parse_ok ⟨a.toArray⟩ (by omega) n k)
      by_cases k2 : ∃ d, Lib.parseIntB 64 b = .ok d
      · obtain ⟨d, k2⟩ := k2
        have PB := hid1 (parse_ok ⟨b.toArray⟩ (by omega) d k2)
        by_cases hf : Fr n d
        · exact read_t_ok_ok_other s _ _ _ n d HC PA PB (hid1 (fshow_ok n d hf)) (ba_ne rfl (h n d hf)) w L
        · exact read_t_ok_ok_bad s _ _ _ n d HC PA PB (hid1 (fun w _ => fshow_no n d hf w)) w L
      · have PB := hid1 (parse_no ⟨b.toArray⟩ (by omega) (fun v e => k2 ⟨v, e⟩))
        exact read_t_ok_no_x s _ _ n HC PA PB w L
    · have PA := hid1 (parse_no ⟨a.toArray⟩ (by omega) (fun v e => k ⟨v, e⟩))
      by_cases k2 : ∃ d, Lib.parseIntB 64 b = .ok d
      · obtain ⟨d, k2⟩ := k2
        have PB := hid1 (parse_ok ⟨b.toArray⟩ (by omega) d k2)
        exact read_t_no_ok_x s _ _ d HC PA PB w L
      · have PB := hid1 (parse_no ⟨b.toArray⟩ (by omega) (fun v e => k2 ⟨v, e⟩))
        exact read_t_no_no_x s _ _ HC PA PB w L
end Go.Proofs.YtboabgjgcnkelabDoor
