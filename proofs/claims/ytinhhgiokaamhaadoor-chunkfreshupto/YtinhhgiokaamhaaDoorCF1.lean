/- CHUNKFULL. -/
import Derived.Test.YtinhhgiokaamhaaDoorCB2
namespace Go.Proofs.YtinhhgiokaamhaaDoor
open Go.RowKit

def tg (t k : Nat) : Nat := (t + k) % 4294967296
/-- The first n chunks: no Body. -/
def fl (t n : Nat) : List Ck := (List.range n).map fun k => (tg t k, [])
theorem fl_len (t n : Nat) : (fl t n).length = n := by simp [fl]
theorem fl_at {t n k : Nat} (h : k < n) : (fl t n)[k]? = some (tg t k, []) := by simp [fl, h]
theorem szC_const : ∀ {l : List Ck}, (∀ c ∈ l, c.2.length = 0) → szC l = 12 + 16 * l.length
  | [], _ => rfl
  | c :: r, h => by
    have h1 := h c (List.mem_cons_self ..)
    have h2 := szC_const (l := r) fun d hd => h d (List.mem_cons_of_mem _ hd)
    simp only [szC, List.length_cons, h1, h2]
    omega
theorem fl_mem {t n : Nat} {c : Ck} (h : c ∈ fl t n) : c.1 < 4294967296 ∧ c.2.length = 0 := by
  simp only [fl, List.mem_map] at h
  obtain ⟨k, _, rfl⟩ := h
  exact ⟨Nat.mod_lt _ (by decide), rfl⟩
theorem fl_sz (t n : Nat) : szC (fl t n) = 12 + 16 * n := by
  rw [szC_const fun c hc => (fl_mem hc).2, fl_len]
/-- The list as it lies in memory, its first k chunks made. -/
def Fr (W : World) (g n t k : Nat) : Prop := ∃ f : Nat → Value, W.rowIs g 37 (n * 2) f ∧ ∀ j, j < k → f (j * 2) = .int .u32 (tg t j : Nat) ∧ f (j * 2 + 1) = .slice none 0 0
theorem Fr.cs {W : World} {g n t : Nat} (h : Fr W g n t n) : Cs W (some ⟨g, 0, none⟩) (fl t n) := fun j c hj => by
  obtain ⟨f, hr, hf⟩ := h
  have hl : j < n := by
    refine Classical.byContradiction fun hn => ?_
    rw [List.getElem?_eq_none (by rw [fl_len]; omega)] at hj
    exact absurd hj (by simp)
  rw [fl_at hl] at hj
  injection hj with hj
  subst hj
  obtain ⟨h1, h2⟩ := hf j hl
  refine ⟨g, 0, none, 0, rfl, ?_, ?_, By.nil _ _, Nat.mod_lt _ (by decide), by simp⟩
  · rw [Nat.zero_add, hr.cell (by omega), h1]
  · rw [Nat.zero_add, hr.cell (by omega), h2]
    rfl
theorem Fr.set {W : World} {g n t k : Nat} (h : Fr W g n t k) (hk : k < n) : Fr ((W.setCell ⟨g, k * 2, none⟩ (.int .u32 (tg t k : Nat))).setCell ⟨g, k * 2 + 1, none⟩ (.slice none 0 0)) g n t (k + 1) := by
  obtain ⟨f, hr, hf⟩ := h
  refine ⟨_, (hr.set (k * 2) _).set (k * 2 + 1) _, fun j hj => ?_⟩
  by_cases hjk : j = k
  · subst hjk
    refine ⟨?_, ?_⟩
    · show (if j * 2 = j * 2 + 1 then _ else if j * 2 = j * 2 then _ else _) = _
      rw [if_neg (by omega), if_pos rfl]
    · show (if j * 2 + 1 = j * 2 + 1 then _ else _) = _
      rw [if_pos rfl]
  · obtain ⟨h1, h2⟩ := hf j (by omega)
    refine ⟨?_, ?_⟩
    · show (if j * 2 = k * 2 + 1 then _ else if j * 2 = k * 2 then _ else _) = _
      rw [if_neg (by omega), if_neg (by omega), h1]
    · show (if j * 2 + 1 = k * 2 + 1 then _ else if j * 2 + 1 = k * 2 then _ else _) = _
      rw [if_neg (by omega), if_neg (by omega), h2]
theorem make_chunks (n : Nat) (hn : n ≤ 2000) (w : World) (t : Nat) : ∃ w', (Instr.makeSlice 28 (.int .i64 (n : Int)) (.int .i64 (n : Int))).run Tryd.prog w = .ok (.slice (some ⟨w.heap.size, 0, none⟩) n n) w' ∧ Below w.heap.size w w' ∧ Fr w' w.heap.size n t 0 := by
  obtain ⟨i0, hi, hz0, hz1, hz2⟩ := info_parts info_chunk
  obtain ⟨w', h1, h2, h3⟩ := run_make_full (P := Tryd.prog) w w.heap.size 28 37 i0 _ 2 und_chunks hi hz0 hz1 .i64 .i64 n (by rw [hz2]; omega) (by unfold maxLen; omega) (Nat.le_refl _)
  refine ⟨w', h1, (BP.grown h3).below (fun x _ h => by cases h), ?_⟩
  rcases h2.2 with ⟨h, _⟩ | ⟨g, cap, cur, h, _, hg, _, _, hs, _⟩
  · cases h
  · injection h with h h'  h''
    injection h with h
    injection h with h
    subst h h''
    exact ⟨fun k => cur.getD k (.slice none 0 0), ⟨cur, hg, hs, fun k hk => by
      have hk' : k < cur.size := by omega
      rw [Array.getElem?_eq_getElem hk']
      simp [Array.getD, hk']⟩, fun j hj => by omega⟩
set_option maxHeartbeats 1600000 in
set_option maxRecDepth 100000 in
theorem full_many (t : Nat) (x : Int) (hx : 0 < x) (w : World) (LD : Laid w) :
    Calls Tryd.prog 5 #[.int .u32 t, .int .i64 x] w fun e w' => e = .returned (.bool true) ∧ Below w.heap.size w w' := by
  have LL := hid1 LD
  clear LD
  go_enter Tryd.func5, Tryd.ntmps5
  go_wp2_with fail
  refine (begun_any w LL.out).mono ?_
  rintro e w1 ⟨rfl, B1⟩
  obtain ⟨w2, mk, b2, fr⟩ := make_chunks 1025 (by decide) w1 t
  have mk' : (Instr.makeSlice 28 (.int .i64 1025) (.int .i64 1025)).run Tryd.prog w1 = .ok (.slice (some ⟨w1.heap.size, 0, none⟩) 1025 1025) w2 := mk
  have B2 := bl_step B1 b2
  have FR := hid1 fr
  have z1 := B1.size
  clear mk fr b2
  generalize w1.heap.size = g at *
  go_wp2_with fail
  clear mk'
  go_loopw [7] (fun i wr => ∃ k : Nat, k ≤ 1025 ∧ i = .int .i64 k ∧ Hid (Fr wr g 1025 t k) ∧ Below w.heap.size w wr) (fun i _ => 1025 - (intOf i).toNat)
  case atStart => exact ⟨0, Nat.zero_le _, rfl, FR, B2⟩
  case round =>
    clear FR B2
    obtain ⟨k, hk, rfl, HF, hnx⟩ := hrel
    have ik0 : (0 : Int) ≤ (k : Int) := by omega
    by_cases hlt : k < 1025
    · have ik : (k : Int) < 1025 := by omega
      have w1 : IntKind.u32.wrap (k : Int) = (k : Int) := by simp [IntKind.wrap, IntKind.signed, IntKind.bits]; omega
      have w2 : IntKind.u32.wrap ((t : Int) + (k : Int)) = ((tg t k : Nat) : Int) := by unfold tg; simp [IntKind.wrap, IntKind.signed, IntKind.bits]
      obtain ⟨f, hr, hf⟩ := HF.out
      have f0 := hr.frozen (k * 2)
      have f1 := hr.frozen (k * 2 + 1)
      have c0 := hr.cell (i := k * 2) (by omega)
      have c1 := hr.cell (i := k * 2 + 1) (by omega)
      have zg := hr.lt
      clear hr hf
      go_wp2_with fail
      exact ⟨⟨k + 1, by omega, by go_num, hid1 (HF.out.set hlt), bl_set (bl_set hnx (by omega) _) (by omega) _⟩, by simp [intOf]; omega⟩
    · obtain rfl : k = 1025 := by omega
      go_wp2_with fail
      have C3 := HF.out.cs
      have WL := write_long t (some ⟨g, 0, none⟩) 1025 (fl t 1025) wr (by rw [fl_len]; decide) C3 (.inl (by rw [fl_len]; decide))
      rw [fl_len] at WL
      refine WL.mono ?_
      rintro e w4 ⟨rfl, b4⟩
      have B4 := bl_step hnx b4
      clear WL C3 b4 hnx
      go_wp2
      go_ret
      exact ⟨rfl, B4⟩
theorem make_bytes (n : Nat) (hn : n ≤ 281474976710656) (w : World) : ∃ w' Z, (Instr.makeSlice 23 (.int .i64 (n : Int)) (.int .i64 (n : Int))).run Tryd.prog w = .ok (.slice (some ⟨w.heap.size, 0, none⟩) n n) w' ∧ Below w.heap.size w w' ∧ By w' (some ⟨w.heap.size, 0, none⟩) Z ∧ Z.length = n ∧ (∀ x ∈ Z, x = 0) ∧ w'.ownsRow w.heap.size 5 1 (.slice (some ⟨w.heap.size, 0, none⟩) n n) n (u8s Z) := by
  obtain ⟨i0, hi, hz0, hz1, hz2⟩ := info_parts info_u8
  obtain ⟨w', h1, h2, h3⟩ := run_make_full (P := Tryd.prog) w w.heap.size 23 5 i0 _ 1 und_u8s hi hz0 hz1 .i64 .i64 n (by rw [hz2]; omega) (by unfold maxLen; omega) (Nat.le_refl _)
  have e : (madeCells (Value.int .u8 0).cells (n * 1)).toList = u8s (List.replicate n 0) := by
    refine List.ext_getElem? fun i => ?_
    by_cases hi : i < n
    · simp [madeCells, u8s, Value.cells, hi, Nat.mod_one]
    · simp [madeCells, u8s, Value.cells, hi]
  rw [e] at h2
  exact ⟨w', List.replicate n 0, h1, (BP.grown h3).below (fun x _ h => by cases h), own_by h2 (fun x hx => by have := List.eq_of_mem_replicate hx; omega), List.length_replicate, fun x hx => List.eq_of_mem_replicate hx, h2⟩
theorem szC_one (t : Nat) (l : List Nat) : szC [(t, l)] = 28 + l.length := by simp only [szC]; omega
theorem eq_same (ao ap : Option Addr) (c d n : Nat) (l : List Ck) (w : World) (hn : l.length = n) (hm : n ≤ 9223372036854775807) (h1 : Cs w ao l) (h2 : Cs w ap l) :
    Calls Tryd.prog 14 #[.slice ao n c, .slice ap n d] w fun e w' => e = .returned (.bool true) ∧ ∃ n, w' = w.drewN n := by
  subst hn
  have h := eq_any ao ap c d l l w hm h1 h2
  simpa using h
/-- A container read back, as one fact. -/
theorem read_back {m : Nat} {cs : List Ck} (hm : m < 4294967296) (hn : cs.length ≤ 1024) (hs : szC cs ≤ 16777216) (h : ∀ c ∈ cs, c.1 < 4294967296) : readE m (cont m cs) = 0 ∧ readV (cont m cs) = cs := by
  have hb : ∀ c ∈ cs, c.2.length ≤ szC cs := by
    clear hm hn hs h
    induction cs with
    | nil => intro c hc; simp at hc
    | cons d r ih =>
      intro c hc
      rcases List.mem_cons.1 hc with rfl | hc
      · simp only [szC]; omega
      · have := ih c hc
        simp only [szC]; omega
  have RA := read_app (m := m) (cs := cs) [] hm hn (fun c hc => ⟨h c hc, by have := hb c hc; omega⟩) m
  rw [List.append_nil] at RA
  refine ⟨?_, RA.2⟩
  rw [RA.1, if_neg (by simp; omega), if_pos rfl, if_pos rfl]
theorem read_good (m : Nat) (ao : Option Addr) (n cap : Nat) (cs : List Ck) (w : World) (LD : Laid w) (hm : m < 4294967296) (hn : cs.length ≤ 1024) (hs : szC cs = n) (hs2 : n ≤ 16777216) (hc1 : n ≤ cap) (hc2 : cap ≤ 9223372036854775807) (h : ∀ c ∈ cs, c.1 < 4294967296) (hb : By w ao (cont m cs)) :
    Calls Tryd.prog 13 #[.int .u32 m, .slice ao n cap] w fun x w' => ∃ lo cp gs, x = .returned (.tuple #[.slice lo cs.length cp, .int .i64 0]) ∧ Ans w' w.heap.size (.slice lo cs.length cp) cs gs ∧ Below w.heap.size w w' := by
  obtain ⟨r1, r2⟩ := read_back hm hn (by omega) h
  have RD := read_any m ao cap (cont m cs) w LD hb (by rw [cont_len]; omega) hc2
  rw [cont_len, hs] at RD
  refine RD.mono ?_
  rintro x w' ⟨h0, -, hB⟩
  obtain ⟨v, gs, rfl, an⟩ := h0 r1
  rw [r2] at an
  obtain ⟨lo, cp, rfl, -, -⟩ := an.val
  exact ⟨lo, cp, gs, rfl, an, hB⟩
theorem write_ok (m : Nat) (lo : Option Addr) (k cl n : Nat) (cs : List Ck) (w : World) (LD : Laid w) (h : Cs w lo cs) (hk : cs.length = k) (hk2 : k ≤ 1024) (hn : szC cs = n) (hs : n ≤ 16777216) :
    Calls Tryd.prog 11 #[.int .u32 m, .slice lo k cl] w fun e w' => ∃ g, e = .returned (.tuple #[.slice (some ⟨g, 0, none⟩) n n, .int .i64 0]) ∧ w'.ownsRow w.heap.size 5 1 (.slice (some ⟨g, 0, none⟩) n n) n (u8s (cont m cs)) ∧ By w' (some ⟨g, 0, none⟩) (cont m cs) ∧ Below w.heap.size w w' := by
  subst hk hn
  refine (write_good m lo cl cs w LD h hk2 hs).mono ?_
  rintro e w' ⟨g, rfl, o, b⟩
  exact ⟨g, rfl, o, own_by o (cont_lt m h.ok), b⟩
theorem own_slice {W : World} {b T s n : Nat} {v : Value} {xs : List Value} (h : W.ownsRow b T s v (n + 1) xs) : ∃ g c, v = .slice (some ⟨g, 0, none⟩) (n + 1) c := by
  rcases h.2 with ⟨_, h0⟩ | ⟨g, c, _, e, _⟩
  · omega
  · exact ⟨g, c, e⟩
set_option maxHeartbeats 3200000 in
set_option maxRecDepth 100000 in
theorem full_few (t : Nat) (ht : t < 4294967296) (x : Int) (hx : ¬ 0 < x) (w : World) (LD : Laid w) :
    Calls Tryd.prog 5 #[.int .u32 t, .int .i64 x] w fun e w' => e = .returned (.bool true) ∧ Below w.heap.size w w' := by
  obtain ⟨i0, hi, hz0, hz1, hz2⟩ := info_parts info_u8
  have LL := hid1 LD
  have lp := LD.pos
  clear LD
  go_enter Tryd.func5, Tryd.ntmps5
  go_wp2_with fail
  refine (begun_any w LL.out).mono ?_
  rintro e w1 ⟨rfl, B1⟩
  obtain ⟨w2, mk, b2, fr⟩ := make_chunks 1024 (by decide) w1 t
  have mk' : (Instr.makeSlice 28 (.int .i64 1024) (.int .i64 1024)).run Tryd.prog w1 = .ok (.slice (some ⟨w1.heap.size, 0, none⟩) 1024 1024) w2 := mk
  have B2 := bl_step B1 b2
  have FR := hid1 fr
  have z1 := B1.size
  clear mk fr b2
  generalize w1.heap.size = g at *
  go_wp2_with fail
  clear mk'
  go_loopw [7] (fun i wr => ∃ k : Nat, k ≤ 1024 ∧ i = .int .i64 k ∧ Hid (Fr wr g 1024 t k) ∧ Below w.heap.size w wr) (fun i _ => 1024 - (intOf i).toNat)
  case atStart => exact ⟨0, Nat.zero_le _, rfl, FR, B2⟩
  case round =>
    clear FR B2
    obtain ⟨k, hk, rfl, HF, hnx⟩ := hrel
    have ik0 : (0 : Int) ≤ (k : Int) := by omega
    by_cases hlt : k < 1024
    · have ik : (k : Int) < 1024 := by omega
      have w1 : IntKind.u32.wrap (k : Int) = (k : Int) := by simp [IntKind.wrap, IntKind.signed, IntKind.bits]; omega
      have w2 : IntKind.u32.wrap ((t : Int) + (k : Int)) = ((tg t k : Nat) : Int) := by unfold tg; simp [IntKind.wrap, IntKind.signed, IntKind.bits]
      obtain ⟨f, hr, hf⟩ := HF.out
      have f0 := hr.frozen (k * 2)
      have f1 := hr.frozen (k * 2 + 1)
      have c0 := hr.cell (i := k * 2) (by omega)
      have c1 := hr.cell (i := k * 2 + 1) (by omega)
      have zg := hr.lt
      clear hr hf
      go_wp2_with fail
      exact ⟨⟨k + 1, by omega, by go_num, hid1 (HF.out.set hlt), bl_set (bl_set hnx (by omega) _) (by omega) _⟩, by simp [intOf]; omega⟩
    · obtain rfl : k = 1024 := by omega
      go_wp2_with fail
      have C3 := HF.out.cs
      obtain ⟨F, eF⟩ : ∃ F, fl t 1024 = F := ⟨_, rfl⟩
      have l1 : F.length = 1024 := by rw [← eF, fl_len]
      have l2 : szC F = 16396 := by rw [← eF, fl_sz]
      have l3 : Hid (∀ c ∈ F, c.1 < 4294967296) := hid1 (by rw [← eF]; exact fun c hc => (fl_mem hc).1)
      rw [eF] at C3
      have C3' := hid1 C3
      clear eF HF C3
      refine (write_ok t (some ⟨g, 0, none⟩) 1024 1024 16396 F wr (LL.out.on hnx) C3'.out l1 (by decide) l2 (by decide)).mono ?_
      rintro e w4 ⟨gb, rfl, -, y4, b4⟩
      have B4 := bl_step hnx b4
      have Y4 := hid1 y4
      have C4 := hid1 (C3'.out.keep b4)
      clear C3' b4 hnx y4
      go_wp2_with fail
      refine (read_good t (some ⟨gb, 0, none⟩) 16396 16396 F w4 (LL.out.on B4) ht (by omega) l2 (by decide) (by decide) (by decide) l3.out Y4.out).mono ?_
      rintro e w5 ⟨lo, cp, gs, rfl, an, b5⟩
      obtain ⟨-, cs5⟩ := an.cs
      rw [l1]
      have B5 := bl_step B4 b5
      have EH := hid1 (eq_same (some ⟨g, 0, none⟩) lo 1024 cp 1024 F w5 l1 (by decide) (C4.out.keep b5) cs5)
      clear an cs5 b5 B4 C4 Y4
      go_wp2_with fail
      refine EH.out.mono ?_
      rintro e w6 ⟨rfl, n6, rfl⟩
      have B6 : Below w.heap.size w (w5.drewN n6) := bl_drewN B5 _
      clear EH B5
      generalize w5.drewN n6 = w6 at *
      by_cases hx2 : -20 < x
      · go_wp2
        go_ret
        exact ⟨rfl, B6⟩
      · have hx3 : ¬ (-20 < x) := hx2
        obtain ⟨w7, Z, mk, b7, y7, zl, z0, -⟩ := make_bytes 16777189 (by decide) w6
        have mk' : (Instr.makeSlice 23 (.int .i64 16777189) (.int .i64 16777189)).run Tryd.prog w6 = .ok (.slice (some ⟨w6.heap.size, 0, none⟩) 16777189 16777189) w7 := mk
        have B7 := bl_step B6 b7
        have Y7 := hid1 y7
        have ZL := hid1 zl
        obtain ⟨Y, eY⟩ : ∃ Y, Z.drop 1 = Y := ⟨_, rfl⟩
        have YL : Hid (Y.length = 16777188) := hid1 (by rw [← eY, List.length_drop, zl])
        have YD : Hid (∀ W, Below w7.heap.size w7 W → By W (some ⟨w6.heap.size, 1, none⟩) Y) := hid1 fun W hW => by
          have := (y7.keep hW).drop 1
          rw [eY, Nat.zero_add] at this
          exact this
        clear mk b7 y7 z0 eY zl hx2 B6
        generalize w6.heap.size = g7 at *
        go_wp2_with fail
        refine gen_calls (fun W => Below w7.heap.size w7 W ∧ Cs W (some ⟨w7.heap.size, 0, none⟩) [(1, Z)]) ⟨bl_alloc (Below.refl _ _) _, ?_⟩ ?_
        · have h := cs_one w7 1 (some ⟨g7, 0, none⟩) Z 16777189 37 Y7.out (by decide) (by rw [ZL.out]; decide)
          rw [ZL.out] at h
          exact h
        · rintro W ⟨bW, cW⟩
          refine (write_long t (some ⟨w7.heap.size, 0, none⟩) 1 [(1, Z)] W (by simp) cW (.inr (by rw [szC_one, ZL.out]; decide))).mono ?_
          rintro e w8 ⟨rfl, b8⟩
          have b8' := bl_step bW b8
          clear bW cW b8
          go_wp2_with fail
          refine gen_calls (fun W => Below w7.heap.size w7 W ∧ Cs W (some ⟨w8.heap.size, 0, none⟩) [(1, Y)]) ⟨bl_alloc b8' _, ?_⟩ ?_
          · have h := cs_one w8 1 (some ⟨g7, 1, none⟩) Y 16777188 37 (YD.out w8 b8') (by decide) (by rw [YL.out]; decide)
            rw [YL.out] at h
            exact h
          · rintro W9 ⟨b9, c9⟩
            have B9 := bl_step B7 b9
            have z9 := B9.size
            refine (write_ok t (some ⟨w8.heap.size, 0, none⟩) 1 1 16777216 [(1, Y)] W9 (LL.out.on B9) c9 rfl (by decide) (by rw [szC_one, YL.out]) (by decide)).mono ?_
            rintro e w10 ⟨gb, rfl, own10, y10, b10⟩
            have B10 := bl_step B9 b10
            have O10 := hid1 own10
            have Y10 := hid1 y10
            clear b8' b9 c9 b10 own10 y10 B9 YD Y7
            go_wp2_with fail
            refine (read_good t (some ⟨gb, 0, none⟩) 16777216 16777216 [(1, Y)] w10 (LL.out.on B10) ht (by simp) (by rw [szC_one, YL.out]) (by decide) (by decide) (by decide) (fun c hc => by simp at hc; subst hc; simp) Y10.out).mono ?_
            rintro e w11 ⟨lo, cp, gs, rfl, an, b11⟩
            obtain ⟨-, cs11⟩ := an.cs
            have B11 := bl_step B10 b11
            have O11 := hid1 (own_keep (S := fun _ => False) (BP.bel b11) O10.out (fun _ _ h => h))
            have z11 := B11.size
            obtain ⟨gl, ol, ao, cap, rfl, q1, q2, -, -, -⟩ := cs11 0 _ rfl
            have NE : Hid (gl ≠ gb) := hid1 fun he => own_ne an.own O11.out (by decide) gl rfl (by rw [he]; rfl)
            have q2' : w11.cell? ⟨gl, ol + 1, none⟩ = some (.slice ao 16777188 cap) := by
              have h : (1, Y).2.length = 16777188 := YL.out
              rw [h] at q2
              simpa using q2
            have CL := hid1 q2'
            clear an cs11 b11 B10 O10 Y10 q1 q2 q2'
            rw [show [(1, Y)].length = 1 from rfl]
            go_wp2_with ((at_builtin; refine wpList_append_own _ rfl _ _ 23 rfl 0 5 i0 (.int .u8 0) 1 1 und_u8s hi hz0 hz1 hz2 rfl (by decide) (.slice (some ⟨gb, 0, none⟩) 16777216 16777216) 16777216 (u8s (cont t [(1, Y)])) (by go_simp) (own_mono (O11.out.alloc _) (Nat.zero_le _)) ⟨w11.heap.size, 0, none⟩ 1 1 [.int .u8 0] (by go_simp) rfl (fun j u h => by rcases j with _ | j; (simp at h; subst h; simp [Addr.add, go_sem]); (simp at h)) (fun x hx => by simp at hx; subst hx; rfl) (by unfold maxLen; omega) (by omega) (Nat.zero_le _) ?_; intro v' w12 own12 gr12 _; have O12 := hid1 own12; have G12 := hid1 gr12; clear own12 gr12; obtain ⟨g13, c13, rfl⟩ := own_slice O12.out))
            refine (read_long t (some ⟨g13, 0, none⟩) 16777217 c13 w12 (by decide)).mono ?_
            rintro e w13 ⟨rfl, b13⟩
            have B12 : Below w.heap.size w w12 := bl_bp (bl_alloc B11 _) (BP.grown G12.out) fun x hx he => by
              have : x = gb := by injection he
              have := (O11.out.lt gb rfl).1
              omega
            have c12 : w12.cell? ⟨gl, ol + 1, none⟩ = some (.slice ao 16777188 cap) := (BP.grown G12.out).cell (b := gl) (fun he => NE.out (by injection he)) (keepc (bl_alloc (Below.refl _ _) _) CL.out)
            have c13 := keepc b13 c12
            have B13 := bl_step B12 b13
            clear b13 c12 B12
            go_wp2
            go_ret
            exact ⟨rfl, B13⟩
theorem full_any (t : Nat) (ht : t < 4294967296) (x : Int) (w : World) (LD : Laid w) :
    Calls Tryd.prog 5 #[.int .u32 t, .int .i64 x] w fun e w' => e = .returned (.bool true) ∧ Below w.heap.size w w' := by
  by_cases h : 0 < x
  · exact full_many t x h w LD
  · exact full_few t ht x h w LD
end Go.Proofs.YtinhhgiokaamhaaDoor
