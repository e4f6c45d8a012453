/- CONTAINERS THAT ARE SPOILT: plain mathematics. -/
import Derived.Test.YtbpglkhgggokcaaDoorCM2
namespace Go.Proofs.YtbpglkhgggokcaaDoor

theorem csn8_split (r x : Nat) : csn 8 (r ^^^ x) = cb r (x % 256) ^^^ (x / 256) := by
  have h2 : x % 2 ^ 8 < 2 ^ 8 := Nat.mod_lt _ (by decide)
  have h3 := Nat.div_add_mod x (2 ^ 8)
  rw [xor_low h2] at h3
  have h4 : csn 8 (r ^^^ x) = csn 8 ((r ^^^ x % 2 ^ 8) ^^^ 2 ^ 8 * (x / 2 ^ 8)) := by
    rw [Nat.xor_assoc, Nat.xor_comm (x % 2 ^ 8), h3]
  rw [h4, csn_xor, csn_even]
  rfl
theorem cr_four {r x : Nat} (hx : x < 4294967296) : cr r (four x) = csn 32 (r ^^^ x) := by
  have e1 := csn8_split r x
  have e2 := csn8_split (cb r (x % 256)) (x / 256)
  have e3 := csn8_split (cb (cb r (x % 256)) (x / 256 % 256)) (x / 65536)
  have e4 := csn8_split (cb (cb (cb r (x % 256)) (x / 256 % 256)) (x / 65536 % 256)) (x / 16777216)
  have d2 : x / 256 / 256 = x / 65536 := by omega
  have d3 : x / 65536 / 256 = x / 16777216 := by omega
  have d4 : x / 16777216 / 256 = 0 := by omega
  rw [d2] at e2
  rw [d3] at e3
  rw [d4, Nat.xor_zero] at e4
  rw [show (32 : Nat) = 8 + (8 + (8 + 8)) from rfl, csn_add, csn_add, csn_add, e1, e2, e3, e4]
  rfl
theorem xor_inj {a b c : Nat} (h : a ^^^ c = b ^^^ c) : a = b := by
  have h2 : (a ^^^ c) ^^^ c = (b ^^^ c) ^^^ c := by rw [h]
  rwa [Nat.xor_assoc, Nat.xor_assoc, Nat.xor_self, Nat.xor_zero, Nat.xor_zero] at h2
theorem csn_inj {n a b : Nat} (ha : a < 4294967296) (hb : b < 4294967296) (h : csn n a = csn n b) : a = b := by
  have h2 : csn n (a ^^^ b) = 0 := by rw [csn_xor, h, Nat.xor_self]
  have h3 := csn_zero n (Nat.xor_lt_two_pow (n := 32) ha hb) h2
  have h4 : (a ^^^ b) ^^^ b = 0 ^^^ b := by rw [h3]
  rwa [Nat.xor_assoc, Nat.xor_self, Nat.xor_zero, Nat.zero_xor] at h4
/-- What the register is behind bytes and their sum. -/
theorem sum_iff {b : List Nat} {x : Nat} (hb : ∀ y ∈ b, y < 256) (hx : x < 4294967296) : crc b = x ↔ cr 4294967295 (b ++ four x) = csn 32 4294967295 := by
  have hr := cr_lt (r := 4294967295) (by decide) hb
  rw [cr_app, cr_four hx]
  have h1 : crc b = cr 4294967295 b ^^^ 4294967295 := by unfold crc; exact not_xor hr
  rw [h1]
  constructor
  · rintro rfl
    rw [← Nat.xor_assoc, Nat.xor_self, Nat.zero_xor]
  · intro h
    have h2 := csn_inj (Nat.xor_lt_two_pow (n := 32) hr hx) (by decide) h
    have h3 : cr 4294967295 b ^^^ (cr 4294967295 b ^^^ x) = cr 4294967295 b ^^^ 4294967295 := by rw [h2]
    rw [← Nat.xor_assoc, Nat.xor_self, Nat.zero_xor] at h3
    exact h3.symm
theorem smE_iff {n : Nat} {l : List Nat} (hb : ∀ y ∈ l, y < 256) (hl : n + 4 ≤ l.length) : crc (l.take n) = num (l.drop n) ↔ cr 4294967295 (l.take (n + 4)) = csn 32 4294967295 := by
  have h3 := four_num (l := (l.drop n).take 4) (by simp; omega) fun x hx => hb x (List.mem_of_mem_drop (List.mem_of_mem_take hx))
  have h4 : num ((l.drop n).take 4) = num (l.drop n) := by
    unfold num
    simp only [List.getD_eq_getElem?_getD, List.getElem?_take]
    simp
  have hd : ((l.drop n).take 4).drop 4 = [] := List.drop_eq_nil_of_le (by simp; omega)
  rw [h4, hd, List.append_nil] at h3
  rw [sum_iff (fun y hy => hb y (List.mem_of_mem_take hy)) (num_lt fun y hy => hb y (List.mem_of_mem_drop hy)), h3]
  have h5 : l.take n ++ (l.drop n).take 4 = l.take (n + 4) := by rw [List.take_add]
  rw [h5]
/-- One byte is another one, or two neighbours are exchanged. -/
def Dm (l l' : List Nat) : Prop := (∃ p a b q, l = p ++ a :: q ∧ l' = p ++ b :: q ∧ a ≠ b) ∨ (∃ p a b q, l = p ++ a :: b :: q ∧ l' = p ++ b :: a :: q ∧ a ≠ b)
theorem Dm.len {l l' : List Nat} (h : Dm l l') : l'.length = l.length := by
  rcases h with ⟨p, a, b, q, rfl, rfl, _⟩ | ⟨p, a, b, q, rfl, rfl, _⟩ <;> simp
theorem cr_byte {l m : List Nat} {a b : Nat} (hl : ∀ x ∈ l, x < 256) (hm : ∀ x ∈ m, x < 256) (ha : a < 256) (hb : b < 256) (h : cr 4294967295 (l ++ a :: m) = cr 4294967295 (l ++ b :: m)) : a = b :=
  crc_byte hl hm ha hb (by unfold crc; rw [h])
theorem cr_swap {l m : List Nat} {a b : Nat} (hl : ∀ x ∈ l, x < 256) (hm : ∀ x ∈ m, x < 256) (ha : a < 256) (hb : b < 256) (h : cr 4294967295 (l ++ a :: b :: m) = cr 4294967295 (l ++ b :: a :: m)) : a = b :=
  crc_swap hl hm ha hb (by unfold crc; rw [h])
theorem split_at {α : Type} {p s u r : List α} (h : p ++ s = u ++ r) (hl : u.length ≤ p.length) : ∃ p2, p = u ++ p2 ∧ r = p2 ++ s := by
  refine ⟨p.drop u.length, ?_, ?_⟩
  · have h1 : (p ++ s).take u.length = (u ++ r).take u.length := by rw [h]
    rw [List.take_left, List.take_append_of_le_length hl] at h1
    conv => lhs; rw [← List.take_append_drop u.length p, h1]
  · have h1 : (p ++ s).drop u.length = (u ++ r).drop u.length := by rw [h]
    rw [List.drop_left, List.drop_append_of_le_length hl] at h1
    exact h1.symm
theorem split_in {α : Type} {p s u r : List α} (h : p ++ s = u ++ r) (hl : p.length ≤ u.length) : ∃ v, u = p ++ v ∧ s = v ++ r := by
  obtain ⟨v, h1, h2⟩ := split_at h.symm hl
  exact ⟨v, h1, h2⟩
/-- A block that is spoilt is told; else what is spoilt lies behind it. -/
theorem blk {b r l' : List Nat} (hu : ∀ x ∈ b ++ (four (crc b) ++ r), x < 256) (hl' : ∀ x ∈ l', x < 256) (h : Dm (b ++ (four (crc b) ++ r)) l') : smE b.length l' = 81 ∨ ∃ r', l' = b ++ (four (crc b) ++ r') ∧ Dm r r' := by
  obtain ⟨u, eu⟩ : ∃ u, b ++ four (crc b) = u := ⟨_, rfl⟩
  have ul : u.length = b.length + 4 := by rw [← eu]; simp [four_len]
  have ecr : cr 4294967295 u = csn 32 4294967295 := by
    rw [← eu]
    exact (sum_iff (fun y hy => hu y (List.mem_append_left _ hy)) crc_lt).1 rfl
  have ell := h.len
  rw [← List.append_assoc, eu] at h hu ell
  have elen : b.length + 4 ≤ l'.length := by rw [ell, List.length_append]; omega
  -- what stands at the front decides
  have fin : cr 4294967295 (l'.take (b.length + 4)) ≠ csn 32 4294967295 → smE b.length l' = 81 := fun hn => by
    unfold smE
    rw [if_neg (by omega), if_neg (fun e => hn ((smE_iff hl' elen).1 e))]
  have hub : ∀ x ∈ u, x < 256 := fun x hx => hu x (List.mem_append_left _ hx)
  rcases h with ⟨p, a, c, q, e1, e2, hne⟩ | ⟨p, a, c, q, e1, e2, hne⟩
  · by_cases hp : u.length ≤ p.length
    · obtain ⟨p2, rfl, rfl⟩ := split_at e1.symm hp
      refine .inr ⟨p2 ++ c :: q, by rw [e2, ← eu]; simp only [List.append_assoc], .inl ⟨p2, a, c, q, rfl, rfl, hne⟩⟩
    · obtain ⟨v, hv1, hv2⟩ := split_in e1.symm (by omega)
      rcases v with _ | ⟨a', v⟩
      · rw [hv1] at hp; simp at hp
      · injection hv2 with ha hv2
        subst ha
        refine .inl (fin fun hc => hne ?_)
        have hv3 : q = v ++ r := hv2
        have et : l'.take (b.length + 4) = p ++ c :: v := by
          rw [e2, hv3, ← ul, hv1]
          have : p ++ c :: (v ++ r) = (p ++ c :: v) ++ r := by simp
          rw [this]
          exact List.take_left' (by simp)
        rw [et] at hc
        rw [hv1] at ecr hub
        refine cr_byte (l := p) (m := v) (fun x hx => hub x (by simp [hx])) (fun x hx => hub x (by simp [hx])) (hub a (by simp)) (hl' c (by rw [e2]; simp)) (ecr.trans hc.symm)
  · by_cases hp : u.length ≤ p.length
    · obtain ⟨p2, rfl, rfl⟩ := split_at e1.symm hp
      refine .inr ⟨p2 ++ c :: a :: q, by rw [e2, ← eu]; simp only [List.append_assoc], .inr ⟨p2, a, c, q, rfl, rfl, hne⟩⟩
    · obtain ⟨v, hv1, hv2⟩ := split_in e1.symm (by omega)
      rcases v with _ | ⟨a', v⟩
      · rw [hv1] at hp; simp at hp
      · injection hv2 with ha hv2
        subst ha
        rcases v with _ | ⟨c', v⟩
        · refine .inl (fin fun hc => hne ?_)
          have et : l'.take (b.length + 4) = p ++ [c] := by
            rw [e2, ← ul, hv1]
            have : p ++ c :: a :: q = (p ++ [c]) ++ a :: q := by simp
            rw [this]
            exact List.take_left' (by simp)
          rw [et] at hc
          rw [hv1] at ecr hub
          exact cr_byte (l := p) (m := []) (fun x hx => hub x (by simp [hx])) (fun x hx => by simp at hx) (hub a (by simp)) (hl' c (by rw [e2]; simp)) (ecr.trans hc.symm)
        · injection hv2 with hc2 hv2
          subst hc2
          refine .inl (fin fun hc => hne ?_)
          have hv3 : q = v ++ r := hv2
          have et : l'.take (b.length + 4) = p ++ c :: a :: v := by
            rw [e2, hv3, ← ul, hv1]
            have : p ++ c :: a :: (v ++ r) = (p ++ c :: a :: v) ++ r := by simp
            rw [this]
            exact List.take_left' (by simp)
          rw [et] at hc
          rw [hv1] at ecr hub
          exact cr_swap (l := p) (m := v) (fun x hx => hub x (by simp [hx])) (fun x hx => hub x (by simp [hx])) (hub a (by simp)) (hub c (by simp)) (ecr.trans hc.symm)
theorem hd_blk {k c : Nat} {r l' : List Nat} (hu : ∀ x ∈ hdB k c ++ r, x < 256) (hl' : ∀ x ∈ l', x < 256) (h : Dm (hdB k c ++ r) l') : smE 8 l' = 81 ∨ ∃ r', l' = hdB k c ++ r' ∧ Dm r r' := by
  have e : ∀ s, hdB k c ++ s = (four k ++ four c) ++ (four (crc (four k ++ four c)) ++ s) := fun s => by simp only [hdB, List.append_assoc]
  rw [e] at hu h
  rcases blk hu hl' h with h1 | ⟨r', h1, h2⟩
  · exact .inl h1
  · exact .inr ⟨r', by rw [e]; exact h1, h2⟩
theorem rd_dm : ∀ {cs : List Ck} {l' : List Nat}, (∀ c ∈ cs, c.Ok ∧ c.2.length < 4294967296) → (∀ x ∈ l', x < 256) → Dm (cksB cs) l' → rdE cs.length l' = 81
  | [], l', _, _, h => by
    rcases h with ⟨p, a, b, q, e, _⟩ | ⟨p, a, b, q, e, _⟩ <;> (have := congrArg List.length e; simp [cksB] at this)
  | c :: t, l', hc, hb, h => by
    have hok := hc c (List.mem_cons_self ..)
    have ht : ∀ d ∈ t, d.Ok ∧ d.2.length < 4294967296 := fun d hd => hc d (List.mem_cons_of_mem _ hd)
    have hlt : ∀ x ∈ cksB (c :: t), x < 256 := cksB_lt fun d hd => (hc d hd).1
    have e1 : cksB (c :: t) = hdB c.1 c.2.length ++ (c.2 ++ (four (crc c.2) ++ cksB t)) := by simp only [cksB, ckB, List.append_assoc]
    rw [e1] at h hlt
    show (if ckE l' = 0 then rdE t.length (ckR l') else ckE l') = 81
    rcases hd_blk hlt hb h with h1 | ⟨r', rfl, h2⟩
    · have : ckE l' = 81 := by unfold ckE; rw [if_neg (by rw [h1]; decide), h1]
      rw [this, if_neg (by decide)]
    · obtain ⟨q1, q2, q3, q4⟩ := hd_app (k := c.1) (c := c.2.length) (r := r') hok.1.1 hok.2
      have hb2 : ∀ x ∈ r', x < 256 := fun x hx => hb x (List.mem_append_right _ hx)
      rcases blk (fun x hx => hlt x (List.mem_append_right _ hx)) hb2 h2 with h3 | ⟨r2, rfl, h4⟩
      · have : ckE (hdB c.1 c.2.length ++ r') = 81 := by unfold ckE; rw [if_pos q1, q3, q4, h3]
        rw [this, if_neg (by decide)]
      · have e2 : hdB c.1 c.2.length ++ (c.2 ++ (four (crc c.2) ++ r2)) = ckB c ++ r2 := by simp only [ckB, List.append_assoc]
        obtain ⟨s1, s2, s3⟩ := ck_app (c := c) (r := r2) hok.1.1 hok.2
        rw [e2, s1, s3, if_pos rfl]
        exact rd_dm ht (fun x hx => hb2 x (List.mem_append_right _ (List.mem_append_right _ hx))) h4
/-- A SPOILT CONTAINER IS TOLD. -/
theorem read_dm {m : Nat} {cs : List Ck} {l' : List Nat} (hm : m < 4294967296) (hn : cs.length ≤ 1024) (hs : szC cs ≤ 16777216) (hc : ∀ c ∈ cs, c.Ok ∧ c.2.length < 4294967296) (hb : ∀ x ∈ l', x < 256) (h : Dm (cont m cs) l') : readE m l' = 81 := by
  have hl := h.len
  rw [cont_len] at hl
  unfold readE
  rw [if_neg (by omega)]
  have hlt := cont_lt m fun c h => (hc c h).1
  unfold cont at h hlt
  rcases hd_blk hlt hb h with h1 | ⟨r', rfl, h2⟩
  · have : opE m l' = 81 := by unfold opE; rw [if_neg (by rw [h1]; decide), h1]
    rw [this, if_neg (by decide)]
  · obtain ⟨q1, q2, q3, q4⟩ := hd_app (k := m) (c := cs.length) (r := r') hm (by omega)
    have : opE m (hdB m cs.length ++ r') = 0 := by unfold opE; rw [if_pos q1, q2, q3, if_pos rfl, if_neg (by omega)]
    rw [this, if_pos rfl, q3, q4]
    exact rd_dm hc (fun x hx => hb x (List.mem_append_right _ hx)) h2
end Go.Proofs.YtbpglkhgggokcaaDoor
