/- THE FRONTS OF A CONTAINER: plain mathematics. -/
import Derived.Test.YtbpglkhgggokcaaDoorCM2
namespace Go.Proofs.YtbpglkhgggokcaaDoor

theorem sm_short {n : Nat} {l : List Nat} (h : l.length < n + 4) : smE n l = 80 := by unfold smE; rw [if_pos h]
theorem rd_front : ∀ {cs : List Ck} {i : Nat}, (∀ c ∈ cs, c.1 < 4294967296 ∧ c.2.length < 4294967296) → i < (cksB cs).length → rdE cs.length ((cksB cs).take i) = 80
  | [], i, _, h => by simp [cksB] at h
  | c :: t, i, hc, h => by
    have hok := hc c (List.mem_cons_self ..)
    have ht : ∀ d ∈ t, d.1 < 4294967296 ∧ d.2.length < 4294967296 := fun d hd => hc d (List.mem_cons_of_mem _ hd)
    have e1 : cksB (c :: t) = hdB c.1 c.2.length ++ (c.2 ++ (four (crc c.2) ++ cksB t)) := by simp only [cksB, ckB, List.append_assoc]
    show (if ckE ((cksB (c :: t)).take i) = 0 then rdE t.length (ckR ((cksB (c :: t)).take i)) else ckE ((cksB (c :: t)).take i)) = 80
    by_cases h1 : i < 12
    · have h2 : smE 8 ((cksB (c :: t)).take i) = 80 := sm_short (by rw [List.length_take]; omega)
      have : ckE ((cksB (c :: t)).take i) = 80 := by unfold ckE; rw [if_neg (by rw [h2]; decide), h2]
      rw [this, if_neg (by decide)]
    · by_cases h2 : i < 16 + c.2.length
      · have e2 : (cksB (c :: t)).take i = hdB c.1 c.2.length ++ (c.2 ++ (four (crc c.2) ++ cksB t)).take (i - 12) := by
          rw [e1, List.take_append, hdB_len, List.take_of_length_le (by rw [hdB_len]; omega)]
        obtain ⟨q1, q2, q3, q4⟩ := hd_app (k := c.1) (c := c.2.length) (r := (c.2 ++ (four (crc c.2) ++ cksB t)).take (i - 12)) hok.1 hok.2
        rw [← e2] at q1 q3 q4
        have : ckE ((cksB (c :: t)).take i) = 80 := by
          unfold ckE
          rw [if_pos q1, q3, q4]
          exact sm_short (by rw [List.length_take]; omega)
        rw [this, if_neg (by decide)]
      · have e2 : (cksB (c :: t)).take i = ckB c ++ (cksB t).take (i - (16 + c.2.length)) := by
          show (ckB c ++ cksB t).take i = _
          rw [List.take_append, ckB_len, List.take_of_length_le (by rw [ckB_len]; omega)]
        obtain ⟨s1, s2, s3⟩ := ck_app (c := c) (r := (cksB t).take (i - (16 + c.2.length))) hok.1 hok.2
        rw [e2, s1, s3, if_pos rfl]
        refine rd_front ht ?_
        have : (cksB (c :: t)).length = 16 + c.2.length + (cksB t).length := by
          show (ckB c ++ cksB t).length = _
          rw [List.length_append, ckB_len]
        omega
/-- EVERY FRONT IS TOO SHORT. -/
theorem read_front {m : Nat} {cs : List Ck} {i : Nat} (hm : m < 4294967296) (hn : cs.length ≤ 1024) (hs : szC cs ≤ 16777216) (hc : ∀ c ∈ cs, c.1 < 4294967296 ∧ c.2.length < 4294967296) (hi : i < szC cs) : readE m ((cont m cs).take i) = 80 := by
  have hl : ((cont m cs).take i).length = i := by rw [List.length_take, cont_len]; omega
  unfold readE
  rw [if_neg (by omega)]
  by_cases h1 : i < 12
  · have h2 : smE 8 ((cont m cs).take i) = 80 := sm_short (by omega)
    have : opE m ((cont m cs).take i) = 80 := by unfold opE; rw [if_neg (by rw [h2]; decide), h2]
    rw [this, if_neg (by decide)]
  · have e2 : (cont m cs).take i = hdB m cs.length ++ (cksB cs).take (i - 12) := by
      unfold cont
      rw [List.take_append, hdB_len, List.take_of_length_le (by rw [hdB_len]; omega)]
    obtain ⟨q1, q2, q3, q4⟩ := hd_app (k := m) (c := cs.length) (r := (cksB cs).take (i - 12)) hm (by omega)
    rw [← e2] at q1 q2 q3 q4
    have : opE m ((cont m cs).take i) = 0 := by unfold opE; rw [if_pos q1, q2, q3, if_pos rfl, if_neg (by omega)]
    rw [this, if_pos rfl, q3, q4]
    have := cksB_len cs
    exact rd_front hc (by omega)
end Go.Proofs.YtbpglkhgggokcaaDoor
