/- CHUNKFULL. -/
import Derived.Test.YtbpglkhgggokcaaDoorCB2
namespace Go.Proofs.YtbpglkhgggokcaaDoor
open Go.RowKit

def tg (t k : Nat) : Nat := (t + k) % 4294967296
/-- The first n chunks: no Body. -/
def fl (t n : Nat) : List Ck := (List.range n).map fun k => (tg t k, [])
theorem fl_len (t n : Nat) : (fl t n).length = n := by simp [fl]
theorem fl_at {t n k : Nat} (h : k < n) : (fl t n)[k]? = some (tg t k, []) := by simp [fl, h]
theorem szC_const : ∀ {l : List Ck}, (∀ c ∈ l, c.2.length = 0) → szC l = 12 + 16 * l.length
  | [], _ => rfl
  | c :: r, h => by
    have h1 := h c (List.mem_cons_self ..)
    have h2 := szC_const (l := r) fun d hd => h d (List.mem_cons_of_mem _ hd)
    simp only [szC, List.length_cons, h1, h2]
    omega
theorem fl_mem {t n : Nat} {c : Ck} (h : c ∈ fl t n) : c.1 < 4294967296 ∧ c.2.length = 0 := by
  simp only [fl, List.mem_map] at h
  obtain ⟨k, _, rfl⟩ := h
  exact ⟨Nat.mod_lt _ (by decide), rfl⟩
theorem fl_sz (t n : Nat) : szC (fl t n) = 12 + 16 * n := by
  rw [szC_const fun c hc => (fl_mem hc).2, fl_len]
/-- The list as it lies in memory, its first k chunks made. -/
def Fr (W : World) (g n t k : Nat) : Prop := ∃ f : Nat → Value, W.rowIs g 44 (n * 2) f ∧ ∀ j, j < k → f (j * 2) = .int .u32 (tg t j : Nat) ∧ f (j * 2 + 1) = .slice none 0 0
theorem Fr.cs {W : World} {g n t : Nat} (h : Fr W g n t n) : Cs W (some ⟨g, 0, none⟩) (fl t n) := fun j c hj => by
  obtain ⟨f, hr, hf⟩ := h
  have hl : j < n := by
    refine Classical.byContradiction fun hn => ?_
    rw [List.getElem?_eq_none (by rw [fl_len]; omega)] at hj
    exact absurd hj (by simp)
  rw [fl_at hl] at hj
  injection hj with hj
  subst hj
  obtain ⟨h1, h2⟩ := hf j hl
  refine ⟨g, 0, none, 0, rfl, ?_, ?_, By.nil _ _, Nat.mod_lt _ (by decide), by simp⟩
  · rw [Nat.zero_add, hr.cell (by omega), h1]
  · rw [Nat.zero_add, hr.cell (by omega), h2]
    rfl
theorem Fr.set {W : World} {g n t k : Nat} (h : Fr W g n t k) (hk : k < n) : Fr ((W.setCell ⟨g, k * 2, none⟩ (.int .u32 (tg t k : Nat))).setCell ⟨g, k * 2 + 1, none⟩ (.slice none 0 0)) g n t (k + 1) := by
  obtain ⟨f, hr, hf⟩ := h
  refine ⟨_, (hr.set (k * 2) _).set (k * 2 + 1) _, fun j hj => ?_⟩
  by_cases hjk : j = k
  · subst hjk
    refine ⟨?_, ?_⟩
    · show (if j * 2 = j * 2 + 1 then _ else if j * 2 = j * 2 then _ else _) = _
      rw [if_neg (by omega), if_pos rfl]
    · show (if j * 2 + 1 = j * 2 + 1 then _ else _) = _
      rw [if_pos rfl]
  · obtain ⟨h1, h2⟩ := hf j (by omega)
    refine ⟨?_, ?_⟩
    · show (if j * 2 = k * 2 + 1 then _ else if j * 2 = k * 2 then _ else _) = _
      rw [if_neg (by omega), if_neg (by omega), h1]
    · show (if j * 2 + 1 = k * 2 + 1 then _ else if j * 2 + 1 = k * 2 then _ else _) = _
      rw [if_neg (by omega), if_neg (by omega), h2]
theorem make_chunks (n : Nat) (hn : n ≤ 2000) (w : World) (t : Nat) : ∃ w', (Instr.makeSlice 27 (.int .i64 (n : Int)) (.int .i64 (n : Int))).run Tryd.prog w = .ok (.slice (some ⟨w.heap.size, 0, none⟩) n n) w' ∧ Below w.heap.size w w' ∧ Fr w' w.heap.size n t 0 := by
  obtain ⟨i0, hi, hz0, hz1, hz2⟩ := info_parts info_chunk
  obtain ⟨w', h1, h2, h3⟩ := run_make_full (P := Tryd.prog) w w.heap.size 27 44 i0 _ 2 und_chunks hi hz0 hz1 .i64 .i64 n (by rw [hz2]; omega) (by unfold maxLen; omega) (Nat.le_refl _)
  refine ⟨w', h1, (BP.grown h3).below (fun x _ h => by cases h), ?_⟩
  rcases h2.2 with ⟨h, _⟩ | ⟨g, cap, cur, h, _, hg, _, _, hs, _⟩
  · cases h
  · injection h with h h'  h''
    injection h with h
    injection h with h
    subst h h''
    exact ⟨fun k => cur.getD k (.slice none 0 0), ⟨cur, hg, hs, fun k hk => by
      have hk' : k < cur.size := by omega
      rw [Array.getElem?_eq_getElem hk']
      simp [Array.getD, hk']⟩, fun j hj => by omega⟩
theorem make_bytes (n : Nat) (hn : n ≤ 281474976710656) (w : World) : ∃ w' Z, (Instr.makeSlice 25 (.int .i64 (n : Int)) (.int .i64 (n : Int))).run Tryd.prog w = .ok (.slice (some ⟨w.heap.size, 0, none⟩) n n) w' ∧ Below w.heap.size w w' ∧ By w' (some ⟨w.heap.size, 0, none⟩) Z ∧ Z.length = n ∧ (∀ x ∈ Z, x = 0) ∧ w'.ownsRow w.heap.size 5 1 (.slice (some ⟨w.heap.size, 0, none⟩) n n) n (u8s Z) := by
  obtain ⟨i0, hi, hz0, hz1, hz2⟩ := info_parts info_u8
  obtain ⟨w', h1, h2, h3⟩ := run_make_full (P := Tryd.prog) w w.heap.size 25 5 i0 _ 1 und_u8s hi hz0 hz1 .i64 .i64 n (by rw [hz2]; omega) (by unfold maxLen; omega) (Nat.le_refl _)
  have e : (madeCells (Value.int .u8 0).cells (n * 1)).toList = u8s (List.replicate n 0) := by
    refine List.ext_getElem? fun i => ?_
    by_cases hi : i < n
    · simp [madeCells, u8s, Value.cells, hi, Nat.mod_one]
    · simp [madeCells, u8s, Value.cells, hi]
  rw [e] at h2
  exact ⟨w', List.replicate n 0, h1, (BP.grown h3).below (fun x _ h => by cases h), own_by h2 (fun x hx => by have := List.eq_of_mem_replicate hx; omega), List.length_replicate, fun x hx => List.eq_of_mem_replicate hx, h2⟩
theorem szC_one (t : Nat) (l : List Nat) : szC [(t, l)] = 28 + l.length := by simp only [szC]; omega
theorem eq_same (ao ap : Option Addr) (c d n : Nat) (l : List Ck) (w : World) (hn : l.length = n) (hm : n ≤ 9223372036854775807) (h1 : Cs w ao l) (h2 : Cs w ap l) :
    Calls Tryd.prog 18 #[.slice ao n c, .slice ap n d] w fun e w' => e = .returned (.bool true) ∧ ∃ n, w' = w.drewN n := by
  subst hn
  have h := eq_any ao ap c d l l w hm h1 h2
  simpa using h
/-- A container read back, as one fact. -/
theorem read_back {m : Nat} {cs : List Ck} (hm : m < 4294967296) (hn : cs.length ≤ 1024) (hs : szC cs ≤ 16777216) (h : ∀ c ∈ cs, c.1 < 4294967296) : readE m (cont m cs) = 0 ∧ readV (cont m cs) = cs := by
  have hb : ∀ c ∈ cs, c.2.length ≤ szC cs := by
    clear hm hn hs h
    induction cs with
    | nil => intro c hc; simp at hc
    | cons d r ih =>
      intro c hc
      rcases List.mem_cons.1 hc with rfl | hc
      · simp only [szC]; omega
      · have := ih c hc
        simp only [szC]; omega
  have RA := read_app (m := m) (cs := cs) [] hm hn (fun c hc => ⟨h c hc, by have := hb c hc; omega⟩) m
  rw [List.append_nil] at RA
  refine ⟨?_, RA.2⟩
  rw [RA.1, if_neg (by simp; omega), if_pos rfl, if_pos rfl]
theorem read_good (m : Nat) (ao : Option Addr) (n cap : Nat) (cs : List Ck) (w : World) (LD : Laid w) (hm : m < 4294967296) (hn : cs.length ≤ 1024) (hs : szC cs = n) (hs2 : n ≤ 16777216) (hc1 : n ≤ cap) (hc2 : cap ≤ 9223372036854775807) (h : ∀ c ∈ cs, c.1 < 4294967296) (hb : By w ao (cont m cs)) :
    Calls Tryd.prog 9 #[.int .u32 m, .slice ao n cap] w fun x w' => ∃ lo cp gs, x = .returned (.tuple #[.slice lo cs.length cp, .int .i64 0]) ∧ Ans w' w.heap.size (.slice lo cs.length cp) cs gs ∧ Below w.heap.size w w' := by
  obtain ⟨r1, r2⟩ := read_back hm hn (by omega) h
  have RD := read_any m ao cap (cont m cs) w LD hb (by rw [cont_len]; omega) hc2
  rw [cont_len, hs] at RD
  refine RD.mono ?_
  rintro x w' ⟨h0, -, hB⟩
  obtain ⟨v, gs, rfl, an⟩ := h0 r1
  rw [r2] at an
  obtain ⟨lo, cp, rfl, -, -⟩ := an.val
  exact ⟨lo, cp, gs, rfl, an, hB⟩
theorem write_ok (m : Nat) (lo : Option Addr) (k cl n : Nat) (cs : List Ck) (w : World) (LD : Laid w) (h : Cs w lo cs) (hk : cs.length = k) (hk2 : k ≤ 1024) (hn : szC cs = n) (hs : n ≤ 16777216) :
    Calls Tryd.prog 8 #[.int .u32 m, .slice lo k cl] w fun e w' => ∃ g, e = .returned (.tuple #[.slice (some ⟨g, 0, none⟩) n n, .int .i64 0]) ∧ w'.ownsRow w.heap.size 5 1 (.slice (some ⟨g, 0, none⟩) n n) n (u8s (cont m cs)) ∧ By w' (some ⟨g, 0, none⟩) (cont m cs) ∧ Below w.heap.size w w' := by
  subst hk hn
  refine (write_good m lo cl cs w LD h hk2 hs).mono ?_
  rintro e w' ⟨g, rfl, o, b⟩
  exact ⟨g, rfl, o, own_by o (cont_lt m h.ok), b⟩
theorem own_slice {W : World} {b T s n : Nat} {v : Value} {xs : List Value} (h : W.ownsRow b T s v (n + 1) xs) : ∃ g c, v = .slice (some ⟨g, 0, none⟩) (n + 1) c := by
  rcases h.2 with ⟨_, h0⟩ | ⟨g, c, _, e, _⟩
  · omega
  · exact ⟨g, c, e⟩
end Go.Proofs.YtbpglkhgggokcaaDoor
