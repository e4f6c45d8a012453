import Derived.Test.YtffhbfdbahdhoabW10
namespace Go.Proofs.Ytffhbfdbahdhoab.Wd
open Go.RowKit Go.Shelf
attribute [local go_sem ↓] Go.wp_at_zero Go.wp_at_succ

def strSize (v : Value) : Nat := match v with
  | .string b => b.size
  | _ => 0
/-- What holds of the world at the head of sizeOfDigits' loop, v being read so far. -/
structure SzAt (w W : World) (v : Int) : Prop where
  c0 : W.cell? ⟨w.heap.size, 0, none⟩ = some (.int .u64 0)
  c1 : W.cell? ⟨w.heap.size, 1, none⟩ = some (.int .u64 0)
  n0 : W.cell? ⟨w.heap.size + 1, 0, none⟩ = some (.int .u64 (hiOf v))
  n1 : W.cell? ⟨w.heap.size + 1, 1, none⟩ = some (.int .u64 (loOf v))
  f0 : W.frozen? ⟨w.heap.size, 0, none⟩ = false
  f1 : W.frozen? ⟨w.heap.size, 1, none⟩ = false
  g0 : W.frozen? ⟨w.heap.size + 1, 0, none⟩ = false
  g1 : W.frozen? ⟨w.heap.size + 1, 1, none⟩ = false
  bel : Below w.heap.size w W
  siz : w.heap.size + 1 < W.heap.size

theorem SzAt.on {w W W' : World} {v : Int} (h : SzAt w W v) (hb : Below W.heap.size W W') : SzAt w W' v :=
  ⟨keepc hb h.c0, keepc hb h.c1, keepc hb h.n0, keepc hb h.n1, keepf hb (by have := h.siz; omega) h.f0, keepf hb (by have := h.siz; omega) h.f1, keepf hb h.siz h.g0, keepf hb h.siz h.g1, bl_step h.bel hb, Nat.lt_of_lt_of_le h.siz hb.size⟩
theorem SzAt.put {w W : World} {v : Int} (h : SzAt w W v) (u : Int) : SzAt w ((W.setCell ⟨w.heap.size + 1, 0, none⟩ (.int .u64 (hiOf u))).setCell ⟨w.heap.size + 1, 1, none⟩ (.int .u64 (loOf u))) u := by
  obtain ⟨c0, c1, n0, n1, f0, f1, g0, g1, bel, siz⟩ := h
  refine ⟨?_, ?_, ?_, ?_, ?_, ?_, ?_, ?_, bl_set (bl_set bel (by omega) _) (by omega) _, by simpa using siz⟩ <;> simp [go_sem, *]
theorem extract_take (R : List UInt8) (p : Nat) : (⟨R.toArray⟩ : ByteArray).extract 0 p = ⟨(R.take p).toArray⟩ := by
  apply ByteArray.ext; simp [List.extract]
theorem extract_drop (R : List UInt8) (p : Nat) : (⟨R.toArray⟩ : ByteArray).extract p R.length = ⟨(R.drop p).toArray⟩ := by
  apply ByteArray.ext; simp
  exact List.take_of_length_le (by simp)
theorem piece_of (R : List UInt8) (h : ¬ R = []) : ∃ (p : Nat) (P R2 : List UInt8), min (R.length : Int) 19 = (p : Int) ∧ min p R.length = p ∧ (⟨R.toArray⟩ : ByteArray).extract 0 p = ⟨P.toArray⟩ ∧ (⟨R.toArray⟩ : ByteArray).extract p R.length = ⟨R2.toArray⟩ ∧ P.length = p ∧ 1 ≤ p ∧ p ≤ 19 ∧ (P = R.take p ∧ R2 = R.drop p) := by
  have hl : R.length ≠ 0 := by simpa using h
  refine ⟨min R.length 19, R.take (min R.length 19), R.drop (min R.length 19), by omega, by omega, extract_take _ _, extract_drop _ _, by simp, by omega, by omega, rfl, rfl⟩
theorem ten_u64 {p : Nat} (h : p ≤ 19) : U64 ((10 ^ p : Nat) : Int) := by
  have h1 : 10 ^ p ≤ 10 ^ 19 := Nat.pow_le_pow_right (by decide) h
  have h2 : (10 : Nat) ^ 19 < 18446744073709551616 := by decide
  generalize 10 ^ p = a at *
  generalize (10 : Nat) ^ 19 = b at *
  exact ⟨by omega, by omega⟩

theorem word_u64 (P : List UInt8) (h : P.length ≤ 19) (hd : ∀ c ∈ P, isDig c = true) : U64 (valD 0 P) := by
  obtain ⟨a, b⟩ := valD_bd P hd
  exact ⟨a, Int.lt_trans b (ten_u64 h).2⟩
theorem drop_more {l R R2 : List UInt8} {k p : Nat} (h : l.drop k = R) (h2 : R2 = R.drop p) : R2 = l.drop (k + p) := by rw [h2, ← h, List.drop_drop]
theorem take_more {l R P : List UInt8} {k p : Nat} (h : l.drop k = R) (h2 : P = R.take p) : l.take (k + p) = l.take k ++ P := by
  rw [h2, ← h, List.take_add]
theorem no_more {l R P R2 : List UInt8} {k p : Nat} {v T x : Int} (hd : ∀ c ∈ l, isDig c = true) (hv : valD 0 (l.take k) = v) (hR : l.drop k = R) (hC : P = R.take p ∧ R2 = R.drop p) (hT : ((10 ^ p : Nat) : Int) = T) (hx : valD 0 P = x) (hpl : P.length = p) (hS : Siz (valD 0 l)) : Siz (v * T) ∧ Siz (v * T + x) := by
  have e : l = l.take (k + p) ++ R2 := by rw [drop_more hR hC.2, List.take_append_drop]
  have hd2 : ∀ c ∈ R2, isDig c = true := fun c hc => hd c (by rw [e]; exact List.mem_append_right _ hc)
  have hdt : ∀ c ∈ l.take k, isDig c = true := fun c hc => hd c (List.mem_of_mem_take hc)
  have hdp : ∀ c ∈ P, isDig c = true := fun c hc => hd c (by rw [hC.1, ← hR] at hc; exact List.mem_of_mem_drop (List.mem_of_mem_take hc))
  have e1 : valD 0 (l.take (k + p)) = v * T + x := by rw [take_more hR hC.1, valD_append, hv, valD_split, hpl, hT, hx]
  have e2 : valD 0 l = valD (v * T + x) R2 := by rw [← e1, ← valD_append, ← e]
  have h1 := valD_mono (n := v * T + x) R2 hd2
  have b1 := (valD_bd _ hdt).1
  have b2 := (valD_bd P hdp).1
  rw [hv] at b1
  rw [hx] at b2
  have p1 : 1 ≤ ((10 ^ R2.length : Nat) : Int) := by have : 0 < 10 ^ R2.length := Nat.pow_pos (by decide); omega
  have p2 : 0 ≤ v * T := Int.mul_nonneg b1 (by rw [← hT]; exact Int.natCast_nonneg _)
  have h2 : (v * T + x) * 1 ≤ (v * T + x) * ((10 ^ R2.length : Nat) : Int) := Int.mul_le_mul_of_nonneg_left p1 (by omega)
  rw [e2] at hS
  unfold Siz at *
  omega
theorem all_read {l : List UInt8} {k : Nat} (h : l.drop k = []) : l.take k = l := by
  have e := List.take_append_drop k l
  rw [h, List.append_nil] at e
  exact e
theorem gen_world {P : Program} {c : Code} {Q : Exit → Act → World → Prop} {a : Act} {W : World} (p : World → Prop) (hp : p W) (h : ∀ W', p W' → c.wp P Q a W') : c.wp P Q a W := h W hp

end Go.Proofs.Ytffhbfdbahdhoab.Wd
