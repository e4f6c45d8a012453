/- CONTAINERS: their form, and how they are read. Plain mathematics. -/
import Derived.Test.YtbpglkhgggokcaaDoorCM1
namespace Go.Proofs.YtbpglkhgggokcaaDoor

/-- A number's four bytes. -/
def four (n : Nat) : List Nat := [n % 256, n / 256 % 256, n / 65536 % 256, n / 16777216 % 256]
/-- What the first four bytes tell. -/
def num (l : List Nat) : Nat := l.getD 0 0 + 256 * l.getD 1 0 + 65536 * l.getD 2 0 + 16777216 * l.getD 3 0
/-- A head: two numbers, and the sum of their eight bytes. -/
def hdB (k c : Nat) : List Nat := four k ++ four c ++ four (crc (four k ++ four c))
abbrev Ck := Nat × List Nat
def ckB (c : Ck) : List Nat := hdB c.1 c.2.length ++ (c.2 ++ four (crc c.2))
def cksB : List Ck → List Nat
  | [] => []
  | c :: r => ckB c ++ cksB r
def cont (m : Nat) (cs : List Ck) : List Nat := hdB m cs.length ++ cksB cs
def szC : List Ck → Nat
  | [] => 12
  | c :: r => 16 + c.2.length + szC r
/-- A chunk that may be: its Tag is a word, its Body is bytes. -/
def Ck.Ok (c : Ck) : Prop := c.1 < 4294967296 ∧ ∀ x ∈ c.2, x < 256
theorem four_len (n : Nat) : (four n).length = 4 := rfl
theorem four_lt (n : Nat) : ∀ x ∈ four n, x < 256 := fun x hx => by
  simp only [four, List.mem_cons, List.not_mem_nil, or_false] at hx
  rcases hx with rfl | rfl | rfl | rfl <;> omega
theorem crc_lt {l : List Nat} : crc l < 4294967296 := by unfold crc; omega
theorem hdB_len (k c : Nat) : (hdB k c).length = 12 := rfl
theorem ckB_len (c : Ck) : (ckB c).length = 16 + c.2.length := by
  simp only [ckB, List.length_append, hdB_len, four_len]; omega
theorem cksB_len : ∀ cs, (cksB cs).length + 12 = szC cs
  | [] => rfl
  | c :: r => by
    have := cksB_len r
    simp only [cksB, szC, List.length_append, ckB_len]; omega
theorem cont_len (m : Nat) (cs : List Ck) : (cont m cs).length = szC cs := by
  have := cksB_len cs
  simp only [cont, List.length_append, hdB_len]; omega
theorem app_lt {a b : List Nat} (ha : ∀ x ∈ a, x < 256) (hb : ∀ x ∈ b, x < 256) : ∀ x ∈ a ++ b, x < 256 := fun x hx => by
  rcases List.mem_append.1 hx with h | h
  · exact ha x h
  · exact hb x h
theorem hdB_lt (k c : Nat) : ∀ x ∈ hdB k c, x < 256 := app_lt (app_lt (four_lt _) (four_lt _)) (four_lt _)
theorem ckB_lt {c : Ck} (h : c.Ok) : ∀ x ∈ ckB c, x < 256 := app_lt (hdB_lt _ _) (app_lt h.2 (four_lt _))
theorem cksB_lt : ∀ {cs : List Ck}, (∀ c ∈ cs, c.Ok) → ∀ x ∈ cksB cs, x < 256
  | [], _ => fun x hx => by simp [cksB] at hx
  | c :: r, h => app_lt (ckB_lt (h c (List.mem_cons_self ..))) (cksB_lt fun d hd => h d (List.mem_cons_of_mem _ hd))
theorem cont_lt (m : Nat) {cs : List Ck} (h : ∀ c ∈ cs, c.Ok) : ∀ x ∈ cont m cs, x < 256 := app_lt (hdB_lt _ _) (cksB_lt h)
theorem num_four {n : Nat} (h : n < 4294967296) (r : List Nat) : num (four n ++ r) = n := by
  simp [num, four]
  omega
theorem num_lt {l : List Nat} (h : ∀ x ∈ l, x < 256) : num l < 4294967296 := by
  have g : ∀ k, l.getD k 0 < 256 := fun k => by
    rw [List.getD_eq_getElem?_getD]
    cases e : l[k]? with
    | none => simp
    | some x => simpa using h x (List.mem_of_getElem? e)
  have h0 := g 0
  have h1 := g 1
  have h2 := g 2
  have h3 := g 3
  unfold num
  omega
theorem four_num {l : List Nat} (hl : 4 ≤ l.length) (hb : ∀ x ∈ l, x < 256) : four (num l) ++ l.drop 4 = l := by
  rcases l with _ | ⟨a, _ | ⟨b, _ | ⟨c, _ | ⟨d, r⟩⟩⟩⟩
  · simp at hl
  · simp at hl
  · simp at hl
  · simp at hl
  · have ha := hb a (by simp)
    have hb' := hb b (by simp)
    have hc := hb c (by simp)
    have hd := hb d (by simp)
    simp only [num, four, List.getD_cons_zero, List.getD_cons_succ, List.drop_succ_cons, List.drop_zero, List.cons_append, List.nil_append, List.cons.injEq, and_true]
    refine ⟨?_, ?_, ?_, ?_⟩ <;> omega

/-- Bytes and their sum: how they are told. -/
def smE (n : Nat) (l : List Nat) : Nat := if l.length < n + 4 then 80 else if crc (l.take n) = num (l.drop n) then 0 else 81
def ckN (l : List Nat) : Nat := num (l.drop 4)
def ckE (l : List Nat) : Nat := if smE 8 l = 0 then smE (ckN l) (l.drop 12) else smE 8 l
def ckV (l : List Nat) : Ck := (num l, (l.drop 12).take (ckN l))
def ckR (l : List Nat) : List Nat := (l.drop 12).drop (ckN l + 4)
def rdE : Nat → List Nat → Nat
  | 0, l => if l = [] then 0 else 82
  | k + 1, l => if ckE l = 0 then rdE k (ckR l) else ckE l
def rdV : Nat → List Nat → List Ck
  | 0, _ => []
  | k + 1, l => ckV l :: rdV k (ckR l)
/-- The container's head. -/
def opE (m : Nat) (l : List Nat) : Nat := if smE 8 l = 0 then (if num l = m then (if 1024 < ckN l then 2 else 0) else 82) else smE 8 l
def readE (m : Nat) (l : List Nat) : Nat := if 16777216 < l.length then 2 else if opE m l = 0 then rdE (ckN l) (l.drop 12) else opE m l
def readV (l : List Nat) : List Ck := rdV (ckN l) (l.drop 12)

theorem smE_app {b r : List Nat} : smE b.length (b ++ (four (crc b) ++ r)) = 0 := by
  unfold smE
  rw [if_neg (by simp [four_len]), List.take_left, List.drop_left, num_four crc_lt, if_pos rfl]
theorem smE_zero {n : Nat} {l : List Nat} (hb : ∀ x ∈ l, x < 256) (h : smE n l = 0) : n + 4 ≤ l.length ∧ l = l.take n ++ (four (crc (l.take n)) ++ l.drop (n + 4)) := by
  unfold smE at h
  by_cases h1 : l.length < n + 4
  · rw [if_pos h1] at h; exact absurd h (by decide)
  rw [if_neg h1] at h
  by_cases h2 : crc (l.take n) = num (l.drop n)
  · refine ⟨by omega, ?_⟩
    have h3 := four_num (l := l.drop n) (by simp; omega) fun x hx => hb x (List.mem_of_mem_drop hx)
    rw [List.drop_drop] at h3
    rw [h2, h3, List.take_append_drop]
  · rw [if_neg h2] at h; exact absurd h (by decide)
theorem smE_cases (n : Nat) (l : List Nat) : smE n l = 0 ∨ smE n l = 80 ∨ smE n l = 81 := by
  unfold smE; split
  · exact .inr (.inl rfl)
  · split
    · exact .inl rfl
    · exact .inr (.inr rfl)
theorem hd_app {k c : Nat} {r : List Nat} (hk : k < 4294967296) (hc : c < 4294967296) :
    smE 8 (hdB k c ++ r) = 0 ∧ num (hdB k c ++ r) = k ∧ ckN (hdB k c ++ r) = c ∧ (hdB k c ++ r).drop 12 = r := by
  refine ⟨?_, ?_, ?_, List.drop_left' (hdB_len k c)⟩
  · have h := smE_app (b := four k ++ four c) (r := r)
    simpa [hdB, four_len, List.append_assoc] using h
  · simp only [hdB, List.append_assoc]
    exact num_four hk _
  · unfold ckN
    have e : (hdB k c ++ r).drop 4 = four c ++ (four (crc (four k ++ four c)) ++ r) := by
      simp only [hdB, List.append_assoc]
      exact List.drop_left' (four_len k)
    rw [e]
    exact num_four hc _
theorem hd_zero {l : List Nat} (hb : ∀ x ∈ l, x < 256) (h : smE 8 l = 0) : l = hdB (num l) (ckN l) ++ l.drop 12 := by
  obtain ⟨h1, h2⟩ := smE_zero hb h
  have e1 := four_num (l := l) (by omega) hb
  have e2 := four_num (l := l.drop 4) (by simp; omega) fun x hx => hb x (List.mem_of_mem_drop hx)
  rw [List.drop_drop] at e2
  have e3 : l.take 8 = four (num l) ++ four (ckN l) := by
    have : l = (four (num l) ++ four (ckN l)) ++ l.drop (4 + 4) := by
      rw [List.append_assoc, show four (ckN l) ++ l.drop (4 + 4) = l.drop 4 from e2, e1]
    conv => lhs; rw [this]
    exact List.take_left' rfl
  conv => lhs; rw [h2]
  rw [e3]
  simp only [hdB, List.append_assoc]
theorem ck_app {c : Ck} {r : List Nat} (hc : c.1 < 4294967296) (hn : c.2.length < 4294967296) : ckE (ckB c ++ r) = 0 ∧ ckV (ckB c ++ r) = c ∧ ckR (ckB c ++ r) = r := by
  have e : ckB c ++ r = hdB c.1 c.2.length ++ (c.2 ++ (four (crc c.2) ++ r)) := by simp only [ckB, List.append_assoc]
  obtain ⟨h1, h2, h3, h4⟩ := hd_app (k := c.1) (c := c.2.length) (r := c.2 ++ (four (crc c.2) ++ r)) hc hn
  rw [e]
  refine ⟨?_, ?_, ?_⟩
  · unfold ckE
    rw [if_pos h1, h3, h4]
    exact smE_app
  · unfold ckV
    rw [h2, h3, h4, List.take_left]
  · unfold ckR
    rw [h3, h4, ← List.drop_drop, List.drop_left]
    exact List.drop_left' (four_len _)
theorem ck_zero {l : List Nat} (hb : ∀ x ∈ l, x < 256) (h : ckE l = 0) : l = ckB (ckV l) ++ ckR l ∧ (ckV l).Ok ∧ (ckV l).2.length = ckN l := by
  unfold ckE at h
  by_cases h1 : smE 8 l = 0
  · rw [if_pos h1] at h
    have hb2 : ∀ x ∈ l.drop 12, x < 256 := fun x hx => hb x (List.mem_of_mem_drop hx)
    obtain ⟨h2, h3⟩ := smE_zero hb2 h
    have e1 : (ckV l).2.length = ckN l := by
      show ((l.drop 12).take (ckN l)).length = _
      rw [List.length_take]; omega
    refine ⟨?_, ⟨num_lt hb, fun x hx => hb2 x (List.mem_of_mem_take hx)⟩, e1⟩
    conv => lhs; rw [hd_zero hb h1, h3]
    unfold ckB
    rw [e1]
    simp only [ckV, ckR, List.append_assoc]
  · rw [if_neg h1] at h; exact absurd h h1
theorem rd_app : ∀ {cs : List Ck} (r : List Nat), (∀ c ∈ cs, c.1 < 4294967296 ∧ c.2.length < 4294967296) → rdE cs.length (cksB cs ++ r) = (if r = [] then 0 else 82) ∧ rdV cs.length (cksB cs ++ r) = cs
  | [], r, _ => ⟨rfl, rfl⟩
  | c :: t, r, h => by
    have hc := h c (List.mem_cons_self ..)
    obtain ⟨h1, h2, h3⟩ := ck_app (c := c) (r := cksB t ++ r) hc.1 hc.2
    obtain ⟨g1, g2⟩ := rd_app (cs := t) r fun d hd => h d (List.mem_cons_of_mem _ hd)
    simp only [List.length_cons, cksB, List.append_assoc, rdE, rdV, h1, h2, h3, if_true, g1, g2, and_self]
theorem rd_zero : ∀ (k : Nat) {l : List Nat}, (∀ x ∈ l, x < 256) → rdE k l = 0 → l = cksB (rdV k l) ∧ (rdV k l).length = k ∧ ∀ c ∈ rdV k l, c.Ok
  | 0, l, _, h => by
    unfold rdE at h
    by_cases e : l = []
    · subst e; exact ⟨rfl, rfl, fun c hc => by simp [rdV] at hc⟩
    · rw [if_neg e] at h; exact absurd h (by decide)
  | k + 1, l, hb, h => by
    unfold rdE at h
    by_cases e : ckE l = 0
    · rw [if_pos e] at h
      obtain ⟨h1, h2, h3⟩ := ck_zero hb e
      have hb2 : ∀ x ∈ ckR l, x < 256 := fun x hx => hb x (List.mem_of_mem_drop (List.mem_of_mem_drop hx))
      obtain ⟨g1, g2, g3⟩ := rd_zero k hb2 h
      refine ⟨?_, by simp [rdV, g2], fun c hc => ?_⟩
      · conv => lhs; rw [h1, g1]
        rfl
      · rcases List.mem_cons.1 hc with rfl | hc
        · exact h2
        · exact g3 c hc
    · rw [if_neg e] at h; exact absurd h e
/-- A container, and what stands behind it, is read so. -/
theorem read_app {m : Nat} {cs : List Ck} (r : List Nat) (hm : m < 4294967296) (hn : cs.length ≤ 1024) (h : ∀ c ∈ cs, c.1 < 4294967296 ∧ c.2.length < 4294967296) (m' : Nat) :
    readE m' (cont m cs ++ r) = (if 16777216 < szC cs + r.length then 2 else if m = m' then (if r = [] then 0 else 82) else 82) ∧ readV (cont m cs ++ r) = cs := by
  have e : cont m cs ++ r = hdB m cs.length ++ (cksB cs ++ r) := by simp only [cont, List.append_assoc]
  obtain ⟨h1, h2, h3, h4⟩ := hd_app (k := m) (c := cs.length) (r := cksB cs ++ r) hm (by omega)
  obtain ⟨g1, g2⟩ := rd_app r h
  have el : (cont m cs ++ r).length = szC cs + r.length := by rw [List.length_append, cont_len]
  refine ⟨?_, ?_⟩
  · unfold readE
    rw [el, e]
    by_cases hb : 16777216 < szC cs + r.length
    · rw [if_pos hb, if_pos hb]
    · rw [if_neg hb, if_neg hb]
      have ho : opE m' (hdB m cs.length ++ (cksB cs ++ r)) = if m = m' then 0 else 82 := by
        unfold opE
        rw [h3, h2, if_pos h1, if_neg (show ¬ 1024 < cs.length by omega)]
      rw [ho, h3, h4, g1]
      by_cases hmm : m = m'
      · rw [if_pos hmm, if_pos hmm, if_pos rfl]
      · rw [if_neg hmm, if_neg hmm, if_neg (by decide)]
  · unfold readV
    rw [e, h3, h4, g2]
/-- What is read is a container. -/
theorem read_zero {m : Nat} {l : List Nat} (hb : ∀ x ∈ l, x < 256) (h : readE m l = 0) : l = cont m (readV l) ∧ (readV l).length ≤ 1024 ∧ szC (readV l) ≤ 16777216 ∧ ∀ c ∈ readV l, c.Ok := by
  unfold readE at h
  by_cases h0 : 16777216 < l.length
  · rw [if_pos h0] at h; exact absurd h (by decide)
  rw [if_neg h0] at h
  by_cases h1 : opE m l = 0
  · rw [if_pos h1] at h
    unfold opE at h1
    by_cases h2 : smE 8 l = 0
    · rw [if_pos h2] at h1
      by_cases h3 : num l = m
      · rw [if_pos h3] at h1
        by_cases h4 : 1024 < ckN l
        · rw [if_pos h4] at h1; exact absurd h1 (by decide)
        · have hb2 : ∀ x ∈ l.drop 12, x < 256 := fun x hx => hb x (List.mem_of_mem_drop hx)
          obtain ⟨g1, g2, g3⟩ := rd_zero _ hb2 h
          have e : l = cont m (readV l) := by
            conv => lhs; rw [hd_zero hb h2, g1]
            unfold cont readV
            rw [g2, h3]
          refine ⟨e, by unfold readV; rw [g2]; omega, ?_, g3⟩
          rw [← cont_len m, ← e]; omega
      · rw [if_neg h3] at h1; exact absurd h1 (by decide)
    · rw [if_neg h2] at h1; exact absurd h1 h2
  · rw [if_neg h1] at h; exact absurd h h1
end Go.Proofs.YtbpglkhgggokcaaDoor
