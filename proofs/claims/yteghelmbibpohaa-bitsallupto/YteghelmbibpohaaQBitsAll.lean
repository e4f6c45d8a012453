import Derived.Test.YteghelmbibpohaaBP1
import Derived.Test.YteghelmbibpohaaQB
import Derived.Deep.Slices
import Derived.Test.YteghelmbibpohaaRows
import Derived.Test.YteghelmbibpohaaBW48
import Derived.JoinedCond
/- PARAMETERS THAT ARE OPERATIONS ON ROWS, of a bulk that is bounded. -/
namespace Go.Proofs.Yteghelmbibpohaa
open Go.ChangeShapes Go.WideShapes Go.ChangeAt Go.RowKit
set_option maxRecDepth 100000

theorem bk_pos {H : Type} (d : DataW H) : 0 < Rows.uptoBulk d := by
  rcases d with l | _ | _ | _ | _ | _ | _ | _
  · rcases l <;> simp [Rows.uptoBulk]
  all_goals simp [Rows.uptoBulk]
theorem bk_len {H : Type} : ∀ l : List (DataW H), l.length ≤ Rows.uptoBulkAll l
  | [] => by simp [Rows.uptoBulkAll]
  | d :: l => by
    have h1 := bk_pos d
    have h2 := bk_len l
    simp only [Rows.uptoBulkAll, List.length_cons]
    omega
theorem bk_mem {H : Type} {d : DataW H} : ∀ {l : List (DataW H)}, d ∈ l → Rows.uptoBulk d ≤ Rows.uptoBulkAll l
  | x :: l, h => by
    simp only [Rows.uptoBulkAll]
    rcases List.mem_cons.mp h with rfl | h
    · omega
    · have := bk_mem h; omega
theorem cells_u64 : Try.prog.cellsOf 35 = 1 := by kernel_rfl
theorem cells_bits : Try.prog.cellsOf 27 = 2 := by kernel_rfl
theorem cells_op : Try.prog.cellsOf 55 = 9 := by kernel_rfl
theorem cells_int : Try.prog.cellsOf 3 = 1 := by kernel_rfl
theorem cells_us : Try.prog.cellsOf 25 = 1 := by kernel_rfl
theorem cells_is : Try.prog.cellsOf 23 = 1 := by kernel_rfl
theorem cells_bs : Try.prog.cellsOf 51 = 1 := by kernel_rfl
theorem und_ops : Try.prog.underlying 48 = some (.slice 55) := by kernel_rfl
theorem add_at (b o n : Nat) : Addr.add ⟨b, o, none⟩ n = ⟨b, o + n, none⟩ := by
  unfold Addr.add
  by_cases h : n = 0
  · subst h; rfl
  · rw [if_neg h]
theorem u64_of_wf {x : Int} (h : (Lit.int .u64 x).wf = true) : 0 ≤ x ∧ x < 18446744073709551616 := by
  simp [Lit.wf, IntKind.min, IntKind.max, IntKind.signed, IntKind.bits] at h
  exact ⟨by omega, by omega⟩
/-- Words make a number. -/
theorem num_gen (B : Nat) (hB : 0 < B) (f : Nat → Nat) : ∀ m, (∀ k, k < m → f k < B) → ∃ N, N < B ^ m ∧ ∀ k, k < m → N / B ^ k % B = f k
  | 0, _ => ⟨0, by simp, fun k hk => absurd hk (by omega)⟩
  | m + 1, h => by
    obtain ⟨N, h1, h2⟩ := num_gen B hB f m fun k hk => h k (by omega)
    have hm := h m (by omega)
    have hp : 0 < B ^ m := Nat.pow_pos hB
    refine ⟨N + B ^ m * f m, ?_, fun k hk => ?_⟩
    · have h3 : B ^ m * (f m + 1) ≤ B ^ m * B := Nat.mul_le_mul_left _ (by omega)
      rw [Nat.mul_add, Nat.mul_one] at h3
      rw [Nat.pow_succ]
      omega
    · by_cases hkm : k = m
      · subst hkm
        rw [Nat.add_mul_div_left _ _ hp, Nat.div_eq_of_lt h1, Nat.zero_add, Nat.mod_eq_of_lt hm]
      · have hlt : k < m := by omega
        obtain ⟨q, rfl⟩ : ∃ q, m = k + (q + 1) := ⟨m - k - 1, by omega⟩
        have e : B ^ (k + (q + 1)) * f (k + (q + 1)) = B ^ k * (B * (B ^ q * f (k + (q + 1)))) := by
          rw [Nat.pow_add, Nat.pow_succ, Nat.mul_comm (B ^ q) B]
          simp only [Nat.mul_assoc]
        rw [e, Nat.add_mul_div_left _ _ (Nat.pow_pos hB), Nat.add_mul_mod_self_left]
        exact h2 k hlt
theorem num_of (f : Nat → Nat) (m : Nat) (h : ∀ k, k < m → f k < 18446744073709551616) : ∃ N, N < 2 ^ (64 * m) ∧ ∀ k, k < m → wd N k = f k := by
  obtain ⟨N, h1, h2⟩ := num_gen (2 ^ 64) (Nat.pow_pos (by decide)) f m (by rw [← two64]; exact h)
  refine ⟨N, by rw [Nat.pow_mul]; exact h1, fun k hk => ?_⟩
  have h3 := h2 k hk
  rw [← Nat.pow_mul, ← two64] at h3
  exact h3
section
variable {H : Type} {enc : TypeId × Value → H} {W : World} {fuel : Nat} {cs : List Value} {x : DataW H × List MemPlace}
theorem fldB {t : TypeId} {fs : Array Field} (ht : Try.prog.underlying t = some (.struct fs)) (h : DataW.trod enc Try.prog W 0 (fun _ => true) true fuel t cs = some x) (hz : Rows.uptoBulk x.1 ≤ 1048576) (i : Nat) (f : Field) (hi : fs[i]? = some f) :
    ∃ n y, DataW.trod enc Try.prog W 0 (fun _ => true) true n f.type ((cs.drop f.offset).take (Try.prog.cellsOf f.type)) = some y ∧ Rows.uptoBulk y.1 ≤ 1048576 := by
  obtain ⟨xs, n, _, ex, _, hxl, hf⟩ := DataW.trod_struct ht h
  have g := hf i f hi
  have hlt : i < xs.length := by
    rw [hxl]
    exact (Array.getElem?_eq_some_iff.1 hi).1
  rw [List.getElem?_eq_getElem hlt] at g
  refine ⟨n, _, g, ?_⟩
  have hm : xs[i].1 ∈ xs.map (·.1) := List.mem_map.mpr ⟨xs[i], List.getElem_mem hlt, rfl⟩
  have h1 := bk_mem hm
  rw [ex] at hz
  simp only [Rows.uptoBulk] at hz
  omega
theorem open_words (h : DataW.trod enc Try.prog W 0 (fun _ => true) true fuel 25 cs = some x) (hz : Rows.uptoBulk x.1 ≤ 1048576) :
    ∃ (ao : Option Addr) (m cap N : Nat), cs = [.slice ao m cap] ∧ m ≤ 1048576 ∧ Ro W ao m N ∧ (ao = none → m = 0 ∧ cap = 0) ∧ ∀ p, ao = some p → 0 < m → p.block < W.heap.size := by
  rcases open_ints und_u64s Try.underlying35 cells_u64 h with ⟨hc, hx⟩ | ⟨a, len, cap, zs, hc, _, hl, _, hzl, hx, hcell, hwf⟩
  · exact ⟨none, 0, 0, 0, hc, by omega, ⟨by simp, fun k hk => absurd hk (by omega)⟩, fun _ => ⟨rfl, rfl⟩, fun p hp => nomatch hp⟩
  · simp only [if_true] at hzl
    have hb : len ≤ 1048576 := by
      rw [hx] at hz
      simp only [Rows.uptoBulk] at hz
      have h1 := bk_len (lits (H := H) .u64 (zs.take len))
      have e : (lits (H := H) .u64 (zs.take len)).length = len := by simp [lits]; omega
      rw [e] at h1
      omega
    have hr : ∀ k, k < len → 0 ≤ zs.getD k 0 ∧ zs.getD k 0 < 18446744073709551616 := fun k hk => by
      have hk2 : k < zs.length := by omega
      have e : zs.getD k 0 = zs[k] := by simp [List.getD, hk2]
      rw [e]
      exact u64_of_wf (hwf _ (List.getElem_mem hk2))
    obtain ⟨N, hN, hNk⟩ := num_of (fun k => (zs.getD k 0).toNat) len fun k hk => by have := hr k hk; omega
    obtain ⟨b, o, s⟩ := a
    have at_ : ∀ k, k < len → s = none ∧ W.cell? ⟨b, o + k, none⟩ = some (wf N k) := fun k hk => by
      have c := hcell k (by omega)
      have c0 := hcell 0 (by omega)
      have hs := World.cell?_spot c0
      simp [Addr.add] at hs
      subst hs
      rw [add_at] at c
      refine ⟨rfl, ?_⟩
      rw [c]
      unfold wf
      rw [hNk k hk]
      have := hr k hk
      congr 2
      omega
    refine ⟨some ⟨b, o, s⟩, len, cap, N, hc, hb, ⟨hN, fun k hk => ?_⟩, fun e => (by cases e), fun p hp h0 => ?_⟩
    · obtain ⟨rfl, c⟩ := at_ k hk
      exact ⟨b, o, rfl, c⟩
    · obtain ⟨_, c⟩ := at_ 0 h0
      injection hp with hp
      subst hp
      exact lt_of_cell c
theorem open_signs (h : DataW.trod enc Try.prog W 0 (fun _ => true) true fuel 23 cs = some x) (hz : Rows.uptoBulk x.1 ≤ 1048576) :
    ∃ (ao : Option Addr) (l : List Int) (cap : Nat), cs = [.slice ao l.length cap] ∧ l.length ≤ 1048576 ∧ R8 W ao l ∧ (ao = none → l.length = 0 ∧ cap = 0) ∧ ∀ p, ao = some p → 0 < l.length → p.block < W.heap.size := by
  rcases open_ints und_i8s Try.underlying24 cells_i8 h with ⟨hc, hx⟩ | ⟨a, len, cap, zs, hc, _, hl, _, hzl, hx, hcell, hwf⟩
  · exact ⟨none, [], 0, hc, by simp, fun k hk => absurd hk (by simp), fun _ => ⟨rfl, rfl⟩, fun p hp => nomatch hp⟩
  · simp only [if_true] at hzl
    have hlen : (zs.take len).length = len := by simp; omega
    have hb : len ≤ 1048576 := by
      rw [hx] at hz
      simp only [Rows.uptoBulk] at hz
      have h1 := bk_len (lits (H := H) .i8 (zs.take len))
      have e : (lits (H := H) .i8 (zs.take len)).length = len := by simp [lits]; omega
      rw [e] at h1
      omega
    obtain ⟨b, o, s⟩ := a
    have at_ : ∀ k, k < len → s = none ∧ W.cell? ⟨b, o + k, none⟩ = some (.int .i8 (ia (zs.take len) k)) := fun k hk => by
      have c := hcell k (by omega)
      have c0 := hcell 0 (by omega)
      have hs := World.cell?_spot c0
      simp [Addr.add] at hs
      subst hs
      rw [add_at] at c
      have e1 : ia (zs.take len) k = zs.getD k 0 := ia_take hk
      exact ⟨rfl, by rw [c, e1]⟩
    refine ⟨some ⟨b, o, s⟩, zs.take len, cap, by rw [hlen]; exact hc, by rw [hlen]; exact hb, fun k hk => ?_, fun e => (by cases e), fun p hp h0 => ?_⟩
    · obtain ⟨rfl, c⟩ := at_ k (by omega)
      exact ⟨b, o, rfl, c⟩
    · obtain ⟨_, c⟩ := at_ 0 (by omega)
      injection hp with hp
      subst hp
      exact lt_of_cell c
theorem open_bits (h : DataW.trod enc Try.prog W 0 (fun _ => true) true fuel 27 cs = some x) (hz : Rows.uptoBulk x.1 ≤ 1048576) :
    ∃ (n : Int) (ao : Option Addr) (m cap N : Nat), cs = [.int .i64 n, .slice ao m cap] ∧ m ≤ 1048576 ∧ Ro W ao m N ∧ (ao = none → m = 0 ∧ cap = 0) ∧ ∀ p, ao = some p → 0 < m → p.block < W.heap.size := by
  have hl : cs.length = 2 := by
    obtain ⟨_, _, _, _, hlen, _, _⟩ := DataW.trod_struct Try.underlying27 h
    exact hlen.trans cells_bits
  obtain ⟨_, y0, t0, _⟩ := fldB Try.underlying27 h hz 0 _ rfl
  obtain ⟨_, y1, t1, b1⟩ := fldB Try.underlying27 h hz 1 _ rfl
  replace t0 : DataW.trod enc Try.prog W 0 (fun _ => true) true _ 3 ((cs.drop 0).take (Try.prog.cellsOf 3)) = some y0 := t0
  replace t1 : DataW.trod enc Try.prog W 0 (fun _ => true) true _ 25 ((cs.drop 1).take (Try.prog.cellsOf 25)) = some y1 := t1
  rw [cells_int] at t0
  rw [cells_us] at t1
  obtain ⟨z, e0, _, _⟩ := DataW.trod_int Try.underlying3 t0
  obtain ⟨ao, m, cap, N, e1, h1, h2, h3, h4⟩ := open_words t1 b1
  match cs, hl with
  | [a, b], _ =>
    simp at e0 e1
    subst e0 e1
    exact ⟨z, ao, m, cap, N, rfl, h1, h2, h3, h4⟩
theorem open_rows (h : DataW.trod enc Try.prog W 0 (fun _ => true) true fuel 51 cs = some x) (hz : Rows.uptoBulk x.1 ≤ 1048576) :
    ∃ (ro : Option Addr) (J cap : Nat) (n : Nat → Int) (m N : Nat → Nat) (ad : Nat → Option Addr) (cp : Nat → Nat), cs = [.slice ro J cap] ∧ J ≤ 1048576 ∧ Jo Ro W ro J n m N ad cp ∧ (∀ j, j < J → m j ≤ 1048576) ∧ (∀ j, j < J → ad j = none → m j = 0 ∧ cp j = 0) ∧ (ro = none → J = 0 ∧ cap = 0) ∧ (∀ p, ro = some p → 0 < J → p.block < W.heap.size) ∧ ∀ j, j < J → ∀ p, ad j = some p → 0 < m j → p.block < W.heap.size := by
  rcases Deep.open_slice und_bits h with ⟨hc, hx⟩ | ⟨a, len, cap, mm, nn, D, Pl, hc, _, hl, hm, hmm, hx, hcell⟩
  · exact ⟨none, 0, 0, fun _ => 0, fun _ => 0, fun _ => 0, fun _ => none, fun _ => 0, hc, by omega, ⟨fun j hj => absurd hj (by omega), fun j hj => absurd hj (by omega)⟩, fun j hj => absurd hj (by omega), fun j hj => absurd hj (by omega), fun _ => ⟨rfl, rfl⟩, fun p hp => (nomatch hp), fun j hj => absurd hj (by omega)⟩
  · simp only [if_true] at hmm
    obtain ⟨b, o, s⟩ := a
    have hd : x.1 = .slice ((List.range len).map D) ((List.range (mm - len)).map fun j => D (len + j)) := congrArg Prod.fst hx
    rw [hd] at hz
    simp only [Rows.uptoBulk] at hz
    have hb : len ≤ 1048576 := by
      have h1 := bk_len ((List.range len).map D)
      rw [List.length_map, List.length_range] at h1
      omega
    have each : ∀ j, j < len → ∃ q : Int × Option Addr × Nat × Nat × Nat, s = none ∧ W.cell? ⟨b, o + j * 2, none⟩ = some (.int .i64 q.1) ∧ W.cell? ⟨b, o + j * 2 + 1, none⟩ = some (.slice q.2.1 q.2.2.1 q.2.2.2.1) ∧ q.2.2.1 ≤ 1048576 ∧ Ro W q.2.1 q.2.2.1 q.2.2.2.2 ∧ (q.2.1 = none → q.2.2.1 = 0 ∧ q.2.2.2.1 = 0) ∧ ∀ p, q.2.1 = some p → 0 < q.2.2.1 → p.block < W.heap.size := fun j hj => by
      obtain ⟨cs1, h1, h2⟩ := hcell j (by omega)
      rw [cells_bits] at h1
      obtain ⟨_, hlen, hc1⟩ := World.cells?_some h1
      have hbj : Rows.uptoBulk (D j) ≤ 1048576 := by
        have h3 := bk_mem (List.mem_map.mpr ⟨j, List.mem_range.mpr hj, rfl⟩ : D j ∈ (List.range len).map D)
        omega
      obtain ⟨n, ao, m, cp, N, rfl, k1, k2, k3, k4⟩ := open_bits h2 hbj
      have e0 := hc1 0 (by decide)
      have e1 := hc1 1 (by decide)
      rw [Deep.add_add] at e0 e1
      have hs : s = none := by
        obtain ⟨cs0, h0, _⟩ := hcell 0 (by omega)
        rw [cells_bits] at h0
        obtain ⟨_, hlen0, hc0⟩ := World.cells?_some h0
        have e2 := hc0 0 (by decide)
        rw [Deep.add_add, List.getElem?_eq_getElem (by omega)] at e2
        have := World.cell?_spot e2
        simpa [Addr.add] using this
      subst hs
      rw [add_at] at e0 e1
      exact ⟨(n, ao, m, cp, N), rfl, e0, e1, k1, k2, k3, k4⟩
    obtain ⟨q, hq⟩ := Deep.choose_lt each
    refine ⟨some ⟨b, o, s⟩, len, cap, fun j => (q j).1, fun j => (q j).2.2.1, fun j => (q j).2.2.2.2, fun j => (q j).2.1, fun j => (q j).2.2.2.1, hc, hb, ⟨fun j hj => ?_, fun j hj => (hq j hj).2.2.2.2.1⟩, fun j hj => (hq j hj).2.2.2.1, fun j hj => (hq j hj).2.2.2.2.2.1, fun e => (by cases e), fun p hp h0 => ?_, fun j hj => (hq j hj).2.2.2.2.2.2⟩
    · obtain ⟨rfl, c, d, _⟩ := hq j hj
      exact ⟨b, o, rfl, c, d⟩
    · obtain ⟨_, c, _⟩ := hq 0 h0
      injection hp with hp
      subst hp
      exact lt_of_cell c
theorem len9 {l : List Value} (h : l.length = 9) : ∃ c0 c1 c2 c3 c4 c5 c6 c7 c8, l = [c0, c1, c2, c3, c4, c5, c6, c7, c8] := by
  match l, h with
  | [c0, c1, c2, c3, c4, c5, c6, c7, c8], _ => exact ⟨c0, c1, c2, c3, c4, c5, c6, c7, c8, rfl⟩
theorem open_op (h : DataW.trod enc Try.prog W 0 (fun _ => true) true fuel 55 cs = some x) (hz : Rows.uptoBulk x.1 ≤ 1048576) :
    ∃ (kd n1 : Int) (m1 A : Nat) (n2 : Int) (m2 B : Nat) (l : List Int) (J : Nat) (n : Nat → Int) (m N : Nat → Nat) (fr to_ : Int) (aa : Option Addr) (ka : Nat) (ba : Option Addr) (kb : Nat) (la : Option Addr) (kl : Nat) (ra : Option Addr) (kr : Nat) (ad : Nat → Option Addr) (cp : Nat → Nat),
      cs = [.int .i64 kd, .int .i64 n1, .slice aa m1 ka, .int .i64 n2, .slice ba m2 kb, .slice la l.length kl, .slice ra J kr, .int .i64 fr, .int .i64 to_] ∧ Ow W ⟨kd, n1, m1, A, n2, m2, B, l, J, n, m, N, fr, to_⟩ aa ka ba kb la ra ad cp ∧ Ob (W.heap.size ≤ ·) ⟨kd, n1, m1, A, n2, m2, B, l, J, n, m, N, fr, to_⟩ aa ba la ra ad ∧ (la = none → l.length = 0 ∧ kl = 0) ∧ (ra = none → J = 0 ∧ kr = 0) := by
  have hl : cs.length = 9 := by
    obtain ⟨_, _, _, _, hlen, _, _⟩ := DataW.trod_struct Try.underlying55 h
    exact hlen.trans cells_op
  obtain ⟨f0, y0, t0, _⟩ := fldB Try.underlying55 h hz 0 _ rfl
  obtain ⟨f1, y1, t1, b1⟩ := fldB Try.underlying55 h hz 1 _ rfl
  obtain ⟨f2, y2, t2, b2⟩ := fldB Try.underlying55 h hz 2 _ rfl
  obtain ⟨f3, y3, t3, b3⟩ := fldB Try.underlying55 h hz 3 _ rfl
  obtain ⟨f4, y4, t4, b4⟩ := fldB Try.underlying55 h hz 4 _ rfl
  obtain ⟨f5, y5, t5, _⟩ := fldB Try.underlying55 h hz 5 _ rfl
  obtain ⟨f6, y6, t6, _⟩ := fldB Try.underlying55 h hz 6 _ rfl
  replace t0 : DataW.trod enc Try.prog W 0 (fun _ => true) true f0 3 ((cs.drop 0).take (Try.prog.cellsOf 3)) = some y0 := t0
  replace t1 : DataW.trod enc Try.prog W 0 (fun _ => true) true f1 27 ((cs.drop 1).take (Try.prog.cellsOf 27)) = some y1 := t1
  replace t2 : DataW.trod enc Try.prog W 0 (fun _ => true) true f2 27 ((cs.drop 3).take (Try.prog.cellsOf 27)) = some y2 := t2
  replace t3 : DataW.trod enc Try.prog W 0 (fun _ => true) true f3 23 ((cs.drop 5).take (Try.prog.cellsOf 23)) = some y3 := t3
  replace t4 : DataW.trod enc Try.prog W 0 (fun _ => true) true f4 51 ((cs.drop 6).take (Try.prog.cellsOf 51)) = some y4 := t4
  replace t5 : DataW.trod enc Try.prog W 0 (fun _ => true) true f5 3 ((cs.drop 7).take (Try.prog.cellsOf 3)) = some y5 := t5
  replace t6 : DataW.trod enc Try.prog W 0 (fun _ => true) true f6 3 ((cs.drop 8).take (Try.prog.cellsOf 3)) = some y6 := t6
  rw [cells_int] at t0 t5 t6
  rw [cells_bits] at t1 t2
  rw [cells_is] at t3
  rw [cells_bs] at t4
  obtain ⟨kd, e0, _, _⟩ := DataW.trod_int Try.underlying3 t0
  obtain ⟨n1, aa, m1, ka, A, e1, p1, p2, p3, p4⟩ := open_bits t1 b1
  obtain ⟨n2, ba, m2, kb, B, e2, q1, q2, q3, q4⟩ := open_bits t2 b2
  obtain ⟨la, l, kl, e3, s1, s2, s3, s4⟩ := open_signs t3 b3
  obtain ⟨ra, J, kr, n, m, N, ad, cp, e4, r1, r2, r3, r4, r5, r6, r7⟩ := open_rows t4 b4
  obtain ⟨fr, e5, _, w5⟩ := DataW.trod_int Try.underlying3 t5
  obtain ⟨to_, e6, _, _⟩ := DataW.trod_int Try.underlying3 t6
  obtain ⟨c0, c1, c2, c3, c4, c5, c6, c7, c8, rfl⟩ := len9 hl
  simp at e0 e1 e2 e3 e4 e5 e6
  obtain ⟨rfl, rfl⟩ := e1
  obtain ⟨rfl, rfl⟩ := e2
  subst e0 e3 e4 e5 e6
  exact ⟨kd, n1, m1, A, n2, m2, B, l, J, n, m, N, fr, to_, aa, ka, ba, kb, la, kl, ra, kr, ad, cp, rfl, ⟨p2, p1, p3, q2, q1, q3, s2, s1, r2, r3, r4, r1, (i64_of_wf w5).2⟩, ⟨fun p hp h0 k => by have := p4 p hp h0; omega, fun p hp h0 k => by have := q4 p hp h0; omega, fun p hp h0 k => by have := s4 p hp h0; omega, fun p hp h0 k => by have := r6 p hp h0; omega, fun j hj p hp h0 k => by have := r7 j hj p hp h0; omega⟩, s3, r5⟩
end
end Go.Proofs.Yteghelmbibpohaa
/- BitsAll: what its loop stands on. -/
namespace Go.Proofs.Yteghelmbibpohaa
open Go.RowKit

/-- A block of another type turns: the Hand is as it was. -/
theorem Hk.but {w w1 : World} {S : Nat → Prop} {hb ga ca gb cb gs cs gr cr gw lw : Nat} {vw : Value} {gi ci : Nat → Nat} {fa fb fs fr : Nat → Value} {ff : Nat → Nat → Value} {b T k : Nat} {F : Nat → Value} (h : Hk w S hb ga ca gb cb gs cs gr cr vw gw lw gi ci fa fb fs fr ff) (hr : w.rowIs b T k F) (hT : T = 55 ∨ T = 57) (hu : But b w w1) : Hk w1 S hb ga ca gb cb gs cs gr cr vw gw lw gi ci fa fb fs fr ff := by
  have no : ∀ {c T' n G}, w.rowIs c T' n G → T' ≠ 55 → T' ≠ 57 → w1.rowIs c T' n G := fun hc t1 t2 => hu.row (by
    rcases hT with rfl | rfl
    · exact row_ne hc hr t1
    · exact row_ne hc hr t2) hc
  exact ⟨no h.h (by decide) (by decide), no h.a (by decide) (by decide), no h.b (by decide) (by decide), no h.s (by decide) (by decide), no h.r (by decide) (by decide), ⟨by
    rcases h.d.val with k | ⟨cw, f, e, k1, k2, k3, k4⟩
    · exact .inl k
    · exact .inr ⟨cw, f, e, k1, k2, no k3 (by decide) (by decide), k4⟩, fun j hj => no (h.d.row j hj) (by decide) (by decide), h.d.max, h.d.inj⟩, h.mx, h.ap, h.lo⟩
theorem Hi.but {w w1 : World} {S : Nat → Prop} {hb b T k : Nat} {F : Nat → Value} (h : Hi w S hb) (hr : w.rowIs b T k F) (hT : T = 55 ∨ T = 57) (hu : But b w w1) : Hi w1 S hb := by
  rcases h with ⟨h, h1⟩ | ⟨ga, ca, gb, cb, gs, cs, gr, cr, vw, gw, lw, gi, ci, fa, fb, fs, fr, ff, h⟩
  · refine .inl ⟨hu.row ?_ h, h1⟩
    rcases hT with rfl | rfl <;> exact row_ne h hr (by decide)
  · exact .inr ⟨_, _, _, _, _, _, _, _, _, _, _, _, _, _, _, _, _, _, h.but hr hT hu⟩
theorem Hi.below {w w1 : World} {S : Nat → Prop} {hb : Nat} (h : Hi w S hb) (hu : Below w.heap.size w w1) : Hi w1 S hb := h.bp (BP.bel (S := fun _ => False) hu) fun _ _ k => k
theorem tdf_new (w : World) (n : Int) (ao : Option Addr) (m c : Nat) (so : Option Addr) (sl sc : Nat) (k mask e : Int) (t : TypeId) :
    (w.alloc (.cells #[.int .i64 n, .slice ao m c, .slice so sl sc, .int .i64 k, .int .u64 mask, .int .i64 e] t)).rowIs w.heap.size t 6 (tdf n ao m c so sl sc k mask e) :=
  World.rowIs_alloc w _ t _ (fun i hi => by
    rcases i with _ | _ | _ | _ | _ | _ | i
    all_goals first
      | rfl
      | (simp at hi; omega))
/-- The cells of an answer and of an operation. -/
theorem kp15 {Y X : World} {T0 B0 : Nat} {n : Int} {ao : Option Addr} {m c : Nat} {so : Option Addr} {sl sc : Nat} {k mask e : Int} {kd n1 : Int} {aa : Option Addr} {m1 ka : Nat} {n2 : Int} {bo : Option Addr} {m2 kb : Nat} {lo : Option Addr} {ll lc : Nat} {ro : Option Addr} {J rc : Nat} {fr to_ : Int}
    (h1 : Y.rowIs T0 57 6 (tdf n ao m c so sl sc k mask e)) (h2 : Y.rowIs B0 55 9 (opf kd n1 aa m1 ka n2 bo m2 kb lo ll lc ro J rc fr to_)) (hb : Below Y.heap.size Y X) :
    (X.cell? ⟨T0, 0, none⟩ = some (.int .i64 n) ∧ X.cell? ⟨T0, 1, none⟩ = some (.slice ao m c) ∧ X.cell? ⟨T0, 2, none⟩ = some (.slice so sl sc) ∧ X.cell? ⟨T0, 3, none⟩ = some (.int .i64 k) ∧ X.cell? ⟨T0, 4, none⟩ = some (.int .u64 mask) ∧ X.cell? ⟨T0, 5, none⟩ = some (.int .i64 e)) ∧
    X.cell? ⟨B0, 0, none⟩ = some (.int .i64 kd) ∧ X.cell? ⟨B0, 1, none⟩ = some (.int .i64 n1) ∧ X.cell? ⟨B0, 2, none⟩ = some (.slice aa m1 ka) ∧ X.cell? ⟨B0, 3, none⟩ = some (.int .i64 n2) ∧ X.cell? ⟨B0, 4, none⟩ = some (.slice bo m2 kb) ∧ X.cell? ⟨B0, 5, none⟩ = some (.slice lo ll lc) ∧ X.cell? ⟨B0, 6, none⟩ = some (.slice ro J rc) ∧ X.cell? ⟨B0, 7, none⟩ = some (.int .i64 fr) ∧ X.cell? ⟨B0, 8, none⟩ = some (.int .i64 to_) :=
  ⟨tdf_cells (keepr hb h1), op_cells (keepr hb h2)⟩
theorem kp17 {Y X : World} {T0 B0 A0 gt ct : Nat} {n : Int} {ao : Option Addr} {m c : Nat} {so : Option Addr} {sl sc : Nat} {k mask e : Int} {kd n1 : Int} {aa : Option Addr} {m1 ka : Nat} {n2 : Int} {bo : Option Addr} {m2 kb : Nat} {lo : Option Addr} {ll lc : Nat} {ro : Option Addr} {J rc : Nat} {fr to_ : Int} {n0 : Int} {m0 : Nat}
    (h1 : Y.rowIs T0 57 6 (tdf n ao m c so sl sc k mask e)) (h2 : Y.rowIs B0 55 9 (opf kd n1 aa m1 ka n2 bo m2 kb lo ll lc ro J rc fr to_)) (h3 : Y.rowIs A0 27 2 (sf n0 (some ⟨gt, 0, none⟩) m0 ct)) (hb : Below Y.heap.size Y X) :
    ((X.cell? ⟨T0, 0, none⟩ = some (.int .i64 n) ∧ X.cell? ⟨T0, 1, none⟩ = some (.slice ao m c) ∧ X.cell? ⟨T0, 2, none⟩ = some (.slice so sl sc) ∧ X.cell? ⟨T0, 3, none⟩ = some (.int .i64 k) ∧ X.cell? ⟨T0, 4, none⟩ = some (.int .u64 mask) ∧ X.cell? ⟨T0, 5, none⟩ = some (.int .i64 e)) ∧
    X.cell? ⟨B0, 0, none⟩ = some (.int .i64 kd) ∧ X.cell? ⟨B0, 1, none⟩ = some (.int .i64 n1) ∧ X.cell? ⟨B0, 2, none⟩ = some (.slice aa m1 ka) ∧ X.cell? ⟨B0, 3, none⟩ = some (.int .i64 n2) ∧ X.cell? ⟨B0, 4, none⟩ = some (.slice bo m2 kb) ∧ X.cell? ⟨B0, 5, none⟩ = some (.slice lo ll lc) ∧ X.cell? ⟨B0, 6, none⟩ = some (.slice ro J rc) ∧ X.cell? ⟨B0, 7, none⟩ = some (.int .i64 fr) ∧ X.cell? ⟨B0, 8, none⟩ = some (.int .i64 to_)) ∧
    X.cell? ⟨A0, 0, none⟩ = some (.int .i64 n0) ∧ X.cell? ⟨A0, 1, none⟩ = some (.slice (some ⟨gt, 0, none⟩) m0 ct) :=
  ⟨kp15 h1 h2 hb, sf_len (keepr hb h3), sf_ws (keepr hb h3)⟩
theorem Tw.but {w w1 : World} {g c m N b T k : Nat} {F : Nat → Value} (h : Tw w g c m N) (hr : w.rowIs b T k F) (hT : 35 ≠ T) (hu : But b w w1) : Tw w1 g c m N := by
  obtain ⟨h1, h2, h3, f, h4, h5⟩ := h
  exact ⟨h1, h2, h3, f, hu.row (row_ne h4 hr hT) h4, h5⟩
theorem Ow.twice {w : World} {kd n1 : Int} {m1 A : Nat} {n2 : Int} {m2 B : Nat} {l : List Int} {J : Nat} {n : Nat → Int} {m N : Nat → Nat} {fr to_ : Int} {ao bo lo ro : Option Addr} {ca cb : Nat} {ad : Nat → Option Addr} {cp : Nat → Nat} (h : Ow w ⟨kd, n1, m1, A, n2, m2, B, l, J, n, m, N, fr, to_⟩ ao ca bo cb lo ro ad cp) :
    Ow w ⟨kd, n1, m1, A, n1, m1, A, l, J, n, m, N, fr, to_⟩ ao ca ao ca lo ro ad cp := ⟨h.a, h.am, h.az, h.a, h.am, h.az, h.l, h.lm, h.r, h.rm, h.rz, h.jm, h.f⟩
theorem Ow.join {w : World} {kd n1 : Int} {m1 A : Nat} {n2 : Int} {m2 B : Nat} {l : List Int} {J : Nat} {n : Nat → Int} {m N : Nat → Nat} {fr to_ : Int} {ao bo lo ro so : Option Addr} {ca cb : Nat} {ad : Nat → Option Addr} {cp : Nat → Nat} (h : Ow w ⟨kd, n1, m1, A, n2, m2, B, l, J, n, m, N, fr, to_⟩ ao ca bo cb lo ro ad cp)
    (hj : Jo Ro w so 2 (fun _ => n1) (fun _ => m1) (fun _ => A) (fun _ => ao) (fun _ => ca)) :
    Ow w ⟨kd, n1, m1, A, n1, m1, A, l, 2, fun _ => n1, fun _ => m1, fun _ => A, fr, to_⟩ ao ca ao ca lo so (fun _ => ao) (fun _ => ca) := ⟨h.a, h.am, h.az, h.a, h.am, h.az, h.l, h.lm, hj, fun _ _ => h.am, fun _ _ e => h.az e, by simp only; omega, h.f⟩
theorem two_cells (w : World) (n1 : Int) (ao : Option Addr) (m c : Nat) (t : TypeId) (j : Nat) (hj : j < 2) : (w.alloc (.cells #[.int .i64 n1, .slice ao m c, .int .i64 n1, .slice ao m c] t)).cell? ⟨w.heap.size, 0 + j * 2, none⟩ = some (.int .i64 n1) ∧ (w.alloc (.cells #[.int .i64 n1, .slice ao m c, .int .i64 n1, .slice ao m c] t)).cell? ⟨w.heap.size, 0 + j * 2 + 1, none⟩ = some (.slice ao m c) := by
  rcases (show j = 0 ∨ j = 1 by omega) with rfl | rfl <;> simp [go_sem]
theorem jo_two (w : World) (n1 : Int) (gt m ct N : Nat) (t : TypeId) (h : Rd (w.alloc (.cells #[.int .i64 n1, .slice (some ⟨gt, 0, none⟩) m ct, .int .i64 n1, .slice (some ⟨gt, 0, none⟩) m ct] t)) (some ⟨gt, 0, none⟩) m N) :
    Jo Rd (w.alloc (.cells #[.int .i64 n1, .slice (some ⟨gt, 0, none⟩) m ct, .int .i64 n1, .slice (some ⟨gt, 0, none⟩) m ct] t)) (some ⟨w.heap.size, 0, none⟩) 2 (fun _ => n1) (fun _ => m) (fun _ => N) (fun _ => some ⟨gt, 0, none⟩) (fun _ => ct) :=
  ⟨fun j hj => ⟨_, 0, rfl, two_cells _ _ _ _ _ _ j hj⟩, fun _ _ => h⟩
theorem jo_two_o {w : World} {n1 : Int} {ao : Option Addr} {m N c : Nat} (t : TypeId) (h : Ro (w.alloc (.cells #[.int .i64 n1, .slice ao m c, .int .i64 n1, .slice ao m c] t)) ao m N) :
    Jo Ro (w.alloc (.cells #[.int .i64 n1, .slice ao m c, .int .i64 n1, .slice ao m c] t)) (some ⟨w.heap.size, 0, none⟩) 2 (fun _ => n1) (fun _ => m) (fun _ => N) (fun _ => ao) (fun _ => c) :=
  ⟨fun j hj => ⟨_, 0, rfl, two_cells _ _ _ _ _ _ j hj⟩, fun _ _ => h⟩
theorem Jo.setFar {w : World} {g J : Nat} {n : Nat → Int} {m N : Nat → Nat} {ad : Nat → Option Addr} {cp : Nat → Nat} (h : Jo Ro w (some ⟨g, 0, none⟩) J n m N ad cp) (b o : Nat) (v : Value) (h1 : g ≠ b) (h2 : ∀ j, j < J → ∀ p, ad j = some p → 0 < m j → p.block ≠ b) : Jo Ro (w.setCell ⟨b, o, none⟩ v) (some ⟨g, 0, none⟩) J n m N ad cp :=
  h.bp (S := (· = b)) ((BP.refl (· = b) w).set (.inl rfl) v) (fun p hp _ e => by injection hp with hp; subst hp; exact h1 e) (fun j hj p hp h0 e => h2 j hj p hp h0 e)
/-- The operations, in the memory that comes in. -/
def Lop (w : World) (ao : Option Addr) (K : Nat) : Prop := ∀ i, i < K → ∃ g off, ao = some ⟨g, off, none⟩ ∧ g < w.heap.size ∧ ∃ (kd n1 : Int) (m1 A : Nat) (n2 : Int) (m2 B : Nat) (l : List Int) (J : Nat) (n : Nat → Int) (m N : Nat → Nat) (fr to_ : Int) (aa : Option Addr) (ka : Nat) (ba : Option Addr) (kb : Nat) (la : Option Addr) (kl : Nat) (ra : Option Addr) (kr : Nat) (ad : Nat → Option Addr) (cp : Nat → Nat),
  (∀ j, j < 9 → w.cell? ⟨g, off + i * 9 + j, none⟩ = some (opf kd n1 aa m1 ka n2 ba m2 kb la l.length kl ra J kr fr to_ j)) ∧ Ow w ⟨kd, n1, m1, A, n2, m2, B, l, J, n, m, N, fr, to_⟩ aa ka ba kb la ra ad cp ∧ Ob (w.heap.size ≤ ·) ⟨kd, n1, m1, A, n2, m2, B, l, J, n, m, N, fr, to_⟩ aa ba la ra ad ∧ (la = none → l.length = 0 ∧ kl = 0) ∧ (ra = none → J = 0 ∧ kr = 0)
end Go.Proofs.Yteghelmbibpohaa
/- A LIST OF OPERATIONS ON ROWS, opened. -/
namespace Go.Proofs.Yteghelmbibpohaa
open Go.ChangeShapes Go.WideShapes Go.ChangeAt Go.RowKit
set_option maxRecDepth 100000

theorem open_ops {H : Type} {enc : TypeId × Value → H} {W : World} {base : Nat} {v : Value} {d : DataW H} {p : List MemPlace}
    (hv : Value.okWide Try.prog W .any base 48 v) (h : DataW.Trod enc Try.prog W 0 (fun _ => true) true 48 v d p) (hz : Rows.uptoBulk d ≤ 1048576) :
    ∃ (ao : Option Addr) (K cap : Nat), v = .slice ao K cap ∧ K ≤ 1048576 ∧ Lop W ao K := by
  obtain ⟨a0, len, cap, rfl⟩ := okWide_slice und_ops hv
  obtain ⟨fuel, hf⟩ := h
  rcases Deep.open_slice und_ops hf with ⟨hc, hx⟩ | ⟨a, len', cap', mm, nn, D, Pl, hc, _, hl, hm, hmm, hx, hcell⟩
  · simp [Value.cells] at hc
    obtain ⟨rfl, rfl, rfl⟩ := hc
    exact ⟨none, 0, 0, rfl, by omega, fun i hi => absurd hi (by omega)⟩
  · simp [Value.cells] at hc
    obtain ⟨rfl, rfl, rfl⟩ := hc
    simp only [if_true] at hmm
    have hd : d = .slice ((List.range len).map D) ((List.range (mm - len)).map fun j => D (len + j)) := congrArg Prod.fst hx
    rw [hd] at hz
    simp only [Rows.uptoBulk] at hz
    have hb : len ≤ 1048576 := by
      have h1 := bk_len ((List.range len).map D)
      rw [List.length_map, List.length_range] at h1
      omega
    refine ⟨some a, len, cap, rfl, hb, fun k hk => ?_⟩
    obtain ⟨b, o, s⟩ := a
    obtain rfl : s = none := by
      obtain ⟨cs0, h0, _⟩ := hcell 0 (by omega)
      rw [cells_op] at h0
      obtain ⟨_, hlen0, hc0⟩ := World.cells?_some h0
      have e2 := hc0 0 (by decide)
      rw [Deep.add_add, List.getElem?_eq_getElem (by omega)] at e2
      have := World.cell?_spot e2
      simpa [Addr.add] using this
    obtain ⟨cs, h1, h2⟩ := hcell k (by omega)
    rw [cells_op] at h1
    obtain ⟨_, hlen, hc1⟩ := World.cells?_some h1
    have hbk : Rows.uptoBulk (D k) ≤ 1048576 := by
      have h3 := bk_mem (List.mem_map.mpr ⟨k, List.mem_range.mpr hk, rfl⟩ : D k ∈ (List.range len).map D)
      omega
    obtain ⟨kd, n1, m1, A, n2, m2, B, l, J, n, m, N, fr, to_, aa, ka, ba, kb, la, kl, ra, kr, ad, cp, rfl, k1, k2, k3, k4⟩ := open_op h2 hbk
    have cc : ∀ j, j < 9 → W.cell? ⟨b, o + k * 9 + j, none⟩ = some (opf kd n1 aa m1 ka n2 ba m2 kb la l.length kl ra J kr fr to_ j) := fun j hj => by
      have := hc1 j hj
      rw [Deep.add_add, add_at, ← Nat.add_assoc] at this
      rw [this]
      rcases (show j = 0 ∨ j = 1 ∨ j = 2 ∨ j = 3 ∨ j = 4 ∨ j = 5 ∨ j = 6 ∨ j = 7 ∨ j = 8 by omega) with rfl | rfl | rfl | rfl | rfl | rfl | rfl | rfl | rfl <;> rfl
    exact ⟨b, o, rfl, lt_of_cell (cc 0 (by omega)), kd, n1, m1, A, n2, m2, B, l, J, n, m, N, fr, to_, aa, ka, ba, kb, la, kl, ra, kr, ad, cp, cc, k1, k2, k3, k4⟩
end Go.Proofs.Yteghelmbibpohaa
/- BitsAll, walked. -/
namespace Go.Proofs.Yteghelmbibpohaa
open Go.RowKit

set_option maxHeartbeats 6400000 in
set_option maxRecDepth 100000 in
theorem bitsAll_any (ao : Option Addr) (K cap : Nat) (w : World) (hK : K ≤ 1048576) (h : Lop w ao K) :
    Calls Try.prog 7 #[.slice ao K cap] w fun e w' => e = .returned (.bool true) ∧ Below w.heap.size w w' := by
  have HL := hid1 h
  clear h
  have iK0 : (0 : Int) ≤ (K : Int) := by omega
  have iK1 : (K : Int) ≤ 1048576 := by omega
  go_enter Try.func7, Try.ntmps7
  go_upto_region 4 with (go_at_call 9; refine (begun_any _).mono ?_; rintro e w1 ⟨rfl, hb1⟩)
  obtain ⟨hb, hhb⟩ : ∃ hb, hb = w1.heap.size := ⟨_, rfl⟩
  refine gen_world (fun X => Hi X (w.heap.size ≤ ·) w1.heap.size ∧ BP (w.heap.size ≤ ·) w X) ?_ ?_
  · refine ⟨.inl ⟨World.rowIs_alloc w1 _ _ _ (fun i hi => ?_), hb1.size⟩, (BP.bel hb1).alloc _⟩
    rcases i with _ | _ | _ | _ | _ | i
    all_goals first
      | rfl
      | (simp at hi; omega)
  rintro X ⟨hi0, hp0⟩
  have HI := hid1 hi0
  have HP := hid1 hp0
  clear hi0 hp0 hb1 hhb
  go_wp2_with fail
  go_loopw [4] (fun i wr => ∃ k : Nat, k ≤ K ∧ i = .int .i64 k ∧ Hi wr (w.heap.size ≤ ·) w1.heap.size ∧ BP (w.heap.size ≤ ·) w wr) (fun i _ => K - (intOf i).toNat)
  case atStart => exact ⟨0, Nat.zero_le _, rfl, HI.out, HP.out⟩
  case round =>
    clear HI HP
    obtain ⟨k, hk, rfl, hi0, hp0⟩ := hrel
    have HI := hid1 hi0
    have HP := hid1 hp0
    clear hi0 hp0
    have ik0 : (0 : Int) ≤ (k : Int) := by omega
    by_cases hlt : k < K
    · have ik : (k : Int) < (K : Int) := by omega
      obtain ⟨g, off, rfl, hgw, kd, n1, m1, A, n2, m2, B, l, J, n, m, N, fr, to_, aa, ka, ba, kb, la, kl, ra, kr, ad, cp, hcs, how, hob, hla, hra⟩ := HL.out k hlt
      obtain ⟨r, hr⟩ := JS.ex J n m N
      have hcs' : ∀ j, j < 9 → wr.cell? ⟨g, off + k * 9 + j, none⟩ = some (opf kd n1 aa m1 ka n2 ba m2 kb la l.length kl ra J kr fr to_ j) := fun j hj => HP.out.cell (by omega) (hcs j hj)
      have c0 : wr.cell? ⟨g, off + k * 9, none⟩ = some (.int .i64 kd) := hcs' 0 (by omega)
      have c1 : wr.cell? ⟨g, off + k * 9 + 1, none⟩ = some (.int .i64 n1) := hcs' 1 (by omega)
      have c2 : wr.cell? ⟨g, off + k * 9 + 2, none⟩ = some (.slice aa m1 ka) := hcs' 2 (by omega)
      have c3 : wr.cell? ⟨g, off + k * 9 + 3, none⟩ = some (.int .i64 n2) := hcs' 3 (by omega)
      have c4 : wr.cell? ⟨g, off + k * 9 + 4, none⟩ = some (.slice ba m2 kb) := hcs' 4 (by omega)
      have c5 : wr.cell? ⟨g, off + k * 9 + 5, none⟩ = some (.slice la l.length kl) := hcs' 5 (by omega)
      have c6 : wr.cell? ⟨g, off + k * 9 + 6, none⟩ = some (.slice ra J kr) := hcs' 6 (by omega)
      have c7 : wr.cell? ⟨g, off + k * 9 + 7, none⟩ = some (.int .i64 fr) := hcs' 7 (by omega)
      have c8 : wr.cell? ⟨g, off + k * 9 + 8, none⟩ = some (.int .i64 to_) := hcs' 8 (by omega)
      have HO := hid1 how
      have HB := hid1 hob
      have HR := hid1 hr
      have HLA := hid1 hla
      have HRA := hid1 hra
      clear how hob hr hla hra hcs hcs'
      go_upto_region 8 with fail
      refine gen_world (fun X => Below wr.heap.size wr X ∧ X.rowIs wr.heap.size 55 9 (opf kd n1 aa m1 ka n2 ba m2 kb la l.length kl ra J kr fr to_)) ⟨bl_alloc (Below.refl _ _) _, op_new _ _ _ _ _ _ _ _ _ _ _ _ _ _ _ _ _ _ _⟩ ?_
      rintro X ⟨hX, rX⟩
      have hiX := HI.out.below hX
      have hpX := HP.out.step hX
      obtain ⟨o0, o1, o2, o3, o4, o5, o6, o7, o8⟩ := op_cells rX
      have HIX := hid1 hiX
      have HPX := hid1 hpX
      have HRX := hid1 rX
      have HW0 := hid1 HP.out.size
      clear HI HP hiX hpX rX hX c0 c1 c2 c3 c4 c5 c6 c7 c8
      have hB0 : w.heap.size ≤ wr.heap.size := HW0.out
      generalize hwb : wr.heap.size = B0 at *
      have HW := hid1 hwb
      clear hwb
      go_upto_region 9 with (go_at_call 24; refine (told_any kd n1 m1 A n2 m2 B l l.length rfl J n m N fr to_ r w.heap.size w1.heap.size aa ka ba kb la kl ra kr ad cp X HR.out HPX.out.size HIX.out (HO.out.bp HPX.out HB.out) HB.out HLA.out HRA.out).mono ?_; rintro e x1 ⟨v, rfl, hta, hi1, hp1, hop⟩; obtain ⟨xo, xc, so, sc, rfl, t1, t2, t3, t4, t5, t6⟩ := hta)
      generalize ht : WS ⟨kd, n1, m1, A, n2, m2, B, l, J, n, m, N, fr, to_⟩ r = t at t1 t2 t3 t4
      have ro1 := hop _ _ _ HRX.out
      have HI1 := hid1 hi1
      have HP1 := hid1 (HPX.out.trans hp1 fun _ _ k => k)
      have HT := hid1 ht
      have HX1 := hid1 HP1.out.size
      clear HIX HPX HRX hi1 hp1 hop ht o0 o1 o2 o3 o4 o5 o6 o7 o8
      refine gen_world (fun Y => Below x1.heap.size x1 Y ∧ Y.rowIs x1.heap.size 57 6 (tdf t.n xo t.m xc so t.l sc t.k t.mask t.e)) ⟨bl_alloc (Below.refl _ _) _, by rw [← HT.out]; exact tdf_new _ _ _ _ _ _ _ _ _ _ _ _⟩ ?_
      rintro Y ⟨hY, rY⟩
      have hpY := HP1.out.step hY
      have HOY := hid1 (HO.out.bp hpY HB.out)
      have HTR := hid1 (t1.below hY)
      have HTS := hid1 (t3.below hY)
      have HRY := hid1 rY
      have HBY := hid1 (keepr hY ro1)
      have HIY := hid1 (HI1.out.below hY)
      have HPY := hid1 hpY
      clear HI1 HP1 hpY rY ro1 t1 t3
      go_cut [37] (fun s wx => s = .bool false ∧ Below Y.heap.size Y wx)
      case first =>
        go_region_held3 (fun X => (X.cell? ⟨x1.heap.size, 0, none⟩ = some (.int .i64 t.n) ∧ X.cell? ⟨x1.heap.size, 1, none⟩ = some (.slice xo t.m xc) ∧ X.cell? ⟨x1.heap.size, 2, none⟩ = some (.slice so t.l sc) ∧ X.cell? ⟨x1.heap.size, 3, none⟩ = some (.int .i64 t.k) ∧ X.cell? ⟨x1.heap.size, 4, none⟩ = some (.int .u64 t.mask) ∧ X.cell? ⟨x1.heap.size, 5, none⟩ = some (.int .i64 t.e)) ∧
          X.cell? ⟨B0, 0, none⟩ = some (.int .i64 kd) ∧ X.cell? ⟨B0, 1, none⟩ = some (.int .i64 n1) ∧ X.cell? ⟨B0, 2, none⟩ = some (.slice aa m1 ka) ∧ X.cell? ⟨B0, 3, none⟩ = some (.int .i64 n2) ∧ X.cell? ⟨B0, 4, none⟩ = some (.slice ba m2 kb) ∧ X.cell? ⟨B0, 5, none⟩ = some (.slice la l.length kl) ∧ X.cell? ⟨B0, 6, none⟩ = some (.slice ra J kr) ∧ X.cell? ⟨B0, 7, none⟩ = some (.int .i64 fr) ∧ X.cell? ⟨B0, 8, none⟩ = some (.int .i64 to_)) (((try dsimp only); (with_reducible refine kp15 HRY.out HBY.out ?_); repeat (first | (with_reducible exact Below.refl _ _) | (with_reducible refine Below.drew ?_) | (with_reducible refine bl_drewN ?_ _) | (with_reducible refine bl_step ?_ (by assumption)))))
          (first
          | (go_at_call 25; refine (eqTold_same t.n t.m t.N t.l t.f xo zo so zs xc zc sc zsc t.k t.mask t.e y1 (by omega) (by omega) (HTR.out.below by1) u1 (HTS.out.below by1) u3).mono ?_; rintro e y2 ⟨rfl, hb2⟩)
          | (go_at_call 26; refine gen_calls (fun X => Below Y.heap.size Y X) (by repeat (first | (with_reducible exact Below.refl _ _) | (with_reducible refine Below.drew ?_) | (with_reducible refine bl_drewN ?_ _) | (with_reducible refine bl_step ?_ (by assumption)))) ?_; intro X hX; have hw := wanted_any ⟨kd, n1, m1, A, n2, m2, B, l, J, n, m, N, fr, to_⟩ r aa ka ba kb la kl ra kr ad cp X HR.out (HOY.out.below hX); rw [HT.out] at hw; refine hw.mono ?_; rintro e y1 ⟨v, rfl, hta, hb1⟩; obtain ⟨zo, zc, zs, zsc, rfl, u1, u2, u3, u4, u5, u6⟩ := hta; have by1 := bl_step hX hb1))
        all_goals (refine meet_of (by assumption) ?_; go_meet; exact ⟨rfl, bl_step by1 hb2⟩)
      case rest =>
        obtain ⟨rfl, hbY⟩ := hcut
        obtain ⟨V, rfl⟩ : ∃ V, V = wc := ⟨_, rfl⟩
        have hbV := keepr hbY HBY.out
        obtain ⟨o0, o1, o2, o3, o4, o5, o6, o7, o8⟩ := op_cells hbV
        have HIV := hid1 (HIY.out.below hbY)
        have HPV := hid1 (HPY.out.step hbY)
        have HRV := hid1 (keepr hbY HRY.out)
        have HBV := hid1 hbV
        have HOV := hid1 (HOY.out.below hbY)
        clear HIY HPY HRY HBY HOY HTR HTS hbV hY
        go_upto_region 12 with (go_at_call 27; refine (twin_any n1 aa m1 A ka V HOV.out.am HOV.out.a HOV.out.az).mono ?_; rintro e x2 ⟨gt, ct, rfl, hgt, htw, hb2⟩)
        refine gen_world (fun U => Below V.heap.size V U ∧ Tw U gt ct m1 A ∧ U.rowIs x2.heap.size 27 2 (sf n1 (some ⟨gt, 0, none⟩) m1 ct)) ⟨bl_alloc hb2 _, htw.below (bl_alloc (Below.refl _ _) _), row_new _ _ _ _ _ _⟩ ?_
        rintro U ⟨hU, hTw, rU⟩
        have hbU := keepr hU HBV.out
        clear o0 o1 o2 o3 o4 o5 o6 o7 o8 hb2 htw
        obtain ⟨o0, o1, o2, o3, o4, o5, o6, o7, o8⟩ := op_cells hbU
        have g3 := hbU.frozen 3
        have g4 := hbU.frozen 4
        have HIU := hid1 (HIV.out.below hU)
        have HPU := hid1 (HPV.out.step hU)
        have HRU := hid1 (keepr hU HRV.out)
        have HBU := hid1 hbU
        have HOU := hid1 (HOV.out.below hU)
        have HAU := hid1 rU
        have HTU := hid1 hTw
        clear HIV HPV HRV HBV HOV hU hbU rU hTw
        go_upto_region 13 with fail
        refine gen_world (fun X => But B0 U X ∧ X.rowIs B0 55 9 (opf kd n1 aa m1 ka n1 aa m1 ka la l.length kl ra J kr fr to_)) ⟨(But.self B0 3 (.int .i64 n1)).set (o := 4) (.slice aa m1 ka), ((HBU.out.set 3 _).set 4 _).congr fun j hj => by
          rcases (show j = 0 ∨ j = 1 ∨ j = 2 ∨ j = 3 ∨ j = 4 ∨ j = 5 ∨ j = 6 ∨ j = 7 ∨ j = 8 by omega) with rfl | rfl | rfl | rfl | rfl | rfl | rfl | rfl | rfl <;> rfl⟩ ?_
        rintro Z ⟨hZ, rZ⟩
        have hpZ := HPU.out.trans (BP.but hZ) fun b hb' e => by omega
        have HIZ := hid1 (HIU.out.but HBU.out (.inl rfl) hZ)
        have HPZ := hid1 hpZ
        have HRZ := hid1 (hZ.row (row_ne HRU.out HBU.out (by decide)) HRU.out)
        have HBZ := hid1 rZ
        have HAZ := hid1 (hZ.row (row_ne HAU.out HBU.out (by decide)) HAU.out)
        have HWZ := hid1 (HTU.out.but HBU.out (by decide) hZ)
        have HOZ := hid1 (HO.out.bp hpZ HB.out)
        have hx1 := HRZ.out.lt
        have HB0 := hid1 rZ.lt
        have hT0 : w.heap.size ≤ x1.heap.size := HX1.out
        clear HIU HPU HRU HBU HAU HTU HOU hpZ hZ o0 o1 o2 o3 o4 o5 o6 o7 o8 g3 g4
        obtain ⟨o0, o1, o2, o3, o4, o5, o6, o7, o8⟩ := op_cells rZ
        have a0 := sf_len HAZ.out
        have a1 := sf_ws HAZ.out
        clear rZ
        by_cases e5 : kd = 5
        · subst e5
          have tl : t.l = 0 ∧ t.k = 0 ∧ t.mask = 0 := by rw [← HT.out]; simp [WS, tR]
          have hTT : WS ⟨5, n1, m1, A, n1, m1, A, l, J, n, m, N, fr, to_⟩ r = tR (andS n1 m1 A n1 m1 A) := by simp [WS]
          have HTL := hid1 tl
          clear tl
          generalize hx : andS n1 m1 A n1 m1 A = x at hTT
          obtain ⟨y, hy⟩ : ∃ y, y = tR x := ⟨_, rfl⟩
          rw [← hy] at hTT
          have HY := hid1 hy
          clear hy
          go_upto_region 21 with (go_at_call 22; refine (and_tot n1 n1 m1 m1 A A (some ⟨gt, 0, none⟩) (some ⟨gt, 0, none⟩) ct ct Z HOZ.out.am HOZ.out.am HWZ.out.rd HWZ.out.rd).mono ?_; rintro e w3 ⟨v, rfl, hans, hb3⟩; rw [hx] at hans; obtain ⟨yo, yc, rfl, hro, hmb, hfs⟩ := hans; have r3 := keepr hb3 HRZ.out; obtain ⟨c0, c1, c2, c3, c4, c5⟩ := tdf_cells r3; have f0 := r3.frozen 0; have f1 := r3.frozen 1; have f2 := r3.frozen 2; have f3 := r3.frozen 3; have f4 := r3.frozen 4; have f5 := r3.frozen 5; have R3 := hid1 r3; clear r3)
          have hu : But x1.heap.size w3 (((w3.setCell ⟨x1.heap.size, 0, none⟩ (.int .i64 x.n)).setCell ⟨x1.heap.size, 1, none⟩ (.slice yo x.m yc)).setCell ⟨x1.heap.size, 5, none⟩ (.int .i64 x.e)) := ((But.self x1.heap.size 0 (.int .i64 x.n)).set (o := 1) (.slice yo x.m yc)).set (o := 5) (.int .i64 x.e)
          have hrow : (((w3.setCell ⟨x1.heap.size, 0, none⟩ (.int .i64 x.n)).setCell ⟨x1.heap.size, 1, none⟩ (.slice yo x.m yc)).setCell ⟨x1.heap.size, 5, none⟩ (.int .i64 x.e)).rowIs x1.heap.size 57 6 (tdf x.n yo x.m yc so t.l sc t.k t.mask x.e) := (((R3.out.set 0 _).set 1 _).set 5 _).congr fun j hj => by
            rcases (show j = 0 ∨ j = 1 ∨ j = 2 ∨ j = 3 ∨ j = 4 ∨ j = 5 by omega) with rfl | rfl | rfl | rfl | rfl | rfl <;> rfl
          have HU := hid1 hu
          have HRW := hid1 hrow
          clear hu hrow
          refine gen_world (fun P => But x1.heap.size w3 P ∧ P.rowIs x1.heap.size 57 6 (tdf y.n yo y.m yc so y.l sc y.k y.mask y.e)) ⟨HU.out, by have h9 := HRW.out; rw [HTL.out.1, HTL.out.2.1, HTL.out.2.2] at h9; rw [HY.out]; exact h9⟩ ?_
          rintro P ⟨hP, rP⟩
          clear HU HRW c0 c1 c2 c3 c4 c5 f0 f1 f2 f3 f4 f5
          have hpP := (HPZ.out.step hb3).trans (BP.but hP) fun b hb' e => by omega
          have HIP := hid1 ((HIZ.out.below hb3).but R3.out (.inr rfl) hP)
          have HPP := hid1 hpP
          have HRP := hid1 rP
          have HBP := hid1 (hP.row (row_ne (keepr hb3 HBZ.out) R3.out (by decide)) (keepr hb3 HBZ.out))
          have HAP := hid1 (hP.row (row_ne (keepr hb3 HAZ.out) R3.out (by decide)) (keepr hb3 HAZ.out))
          have HWP := hid1 ((HWZ.out.below hb3).but R3.out (by decide) hP)
          have HOP := hid1 (Ow.twice (HO.out.bp hpP HB.out))
          have HXR : Hid (Ro P yo y.m y.N) := hid1 (by rw [HY.out]; exact hro.bp (BP.but hP) fun p hp _ e => by have := hfs p hp; have := HRZ.out.lt; omega)
          have hym : y.m ≤ 262144 := by rw [HY.out]; exact hmb
          have hyl : y.l < 1 := by rw [HY.out]; exact Nat.one_pos
          have HTP : Hid (Rs P so y.l (fun k => .int .i8 (y.f k))) := hid1 fun j hj => absurd hj (by omega)
          clear HIZ HPZ HRZ HBZ HAZ HWZ HOZ R3 hP rP hpP hro hfs hb3
          go_cut [94] (fun s wx => s = .bool false ∧ Below P.heap.size P wx)
          case first =>
            go_region_held3 (fun X => ((X.cell? ⟨x1.heap.size, 0, none⟩ = some (.int .i64 y.n) ∧ X.cell? ⟨x1.heap.size, 1, none⟩ = some (.slice yo y.m yc) ∧ X.cell? ⟨x1.heap.size, 2, none⟩ = some (.slice so y.l sc) ∧ X.cell? ⟨x1.heap.size, 3, none⟩ = some (.int .i64 y.k) ∧ X.cell? ⟨x1.heap.size, 4, none⟩ = some (.int .u64 y.mask) ∧ X.cell? ⟨x1.heap.size, 5, none⟩ = some (.int .i64 y.e)) ∧
              X.cell? ⟨B0, 0, none⟩ = some (.int .i64 5) ∧ X.cell? ⟨B0, 1, none⟩ = some (.int .i64 n1) ∧ X.cell? ⟨B0, 2, none⟩ = some (.slice aa m1 ka) ∧ X.cell? ⟨B0, 3, none⟩ = some (.int .i64 n1) ∧ X.cell? ⟨B0, 4, none⟩ = some (.slice aa m1 ka) ∧ X.cell? ⟨B0, 5, none⟩ = some (.slice la l.length kl) ∧ X.cell? ⟨B0, 6, none⟩ = some (.slice ra J kr) ∧ X.cell? ⟨B0, 7, none⟩ = some (.int .i64 fr) ∧ X.cell? ⟨B0, 8, none⟩ = some (.int .i64 to_)) ∧ X.cell? ⟨x2.heap.size, 0, none⟩ = some (.int .i64 n1) ∧ X.cell? ⟨x2.heap.size, 1, none⟩ = some (.slice (some ⟨gt, 0, none⟩) m1 ct)) (((try dsimp only); (with_reducible refine kp17 HRP.out HBP.out HAP.out ?_); repeat (first | (with_reducible exact Below.refl _ _) | (with_reducible refine Below.drew ?_) | (with_reducible refine bl_drewN ?_ _) | (with_reducible refine bl_step ?_ (by assumption)))))
              (first
              | (go_at_call 25; refine (eqTold_same y.n y.m y.N y.l y.f yo zo so zs yc zc sc zsc y.k y.mask y.e y1 (by omega) (by omega) (HXR.out.below by1) u1 (HTP.out.below by1) u3).mono ?_; rintro e y2 ⟨rfl, hb2⟩)
              | (go_at_call 26; refine gen_calls (fun X => Below P.heap.size P X) (by repeat (first | (with_reducible exact Below.refl _ _) | (with_reducible refine Below.drew ?_) | (with_reducible refine bl_drewN ?_ _) | (with_reducible refine bl_step ?_ (by assumption)))) ?_; intro X hX; have hw := wanted_any ⟨5, n1, m1, A, n1, m1, A, l, J, n, m, N, fr, to_⟩ r aa ka aa ka la kl ra kr ad cp X HR.out (HOP.out.below hX); rw [hTT] at hw; refine hw.mono ?_; rintro e y1 ⟨v, rfl, hta, hb1⟩; obtain ⟨zo, zc, zs, zsc, rfl, u1, u2, u3, u4, u5, u6⟩ := hta; have by1 := bl_step hX hb1)
              | (go_at_call 28; refine gen_calls (fun X => Below P.heap.size P X) (by repeat (first | (with_reducible exact Below.refl _ _) | (with_reducible refine Below.drew ?_) | (with_reducible refine bl_drewN ?_ _) | (with_reducible refine bl_step ?_ (by assumption)))) ?_; intro X0 hX0; refine (kept_any n1 gt ct aa m1 A ka X0 HOP.out.am (HWP.out.below hX0) (HOP.out.a.below hX0)).mono ?_; rintro e y0 ⟨rfl, hb0⟩; have by0 := bl_step hX0 hb0))
            all_goals (refine meet_of (by assumption) ?_; go_meet; exact ⟨rfl, bl_step by1 hb2⟩)
          case rest =>
            obtain ⟨rfl, hbP⟩ := hcut
            have hiF := HIP.out.below hbP
            have hpF := HPP.out.step hbP
            clear HIP HPP HRP HBP HAP HXR HTP HOP HWP
            go_wp2_with fail
            exact ⟨⟨k + 1, by omega, by go_num, hiF, hpF⟩, by simp [intOf]; omega⟩
        by_cases e6 : kd = 6
        · subst e6
          have tl : t.l = 0 ∧ t.k = 0 ∧ t.mask = 0 := by rw [← HT.out]; simp [WS, tR]
          have hTT : WS ⟨6, n1, m1, A, n1, m1, A, l, J, n, m, N, fr, to_⟩ r = tR (xorS n1 m1 A n1 m1 A) := by simp [WS]
          have HTL := hid1 tl
          clear tl
          generalize hx : xorS n1 m1 A n1 m1 A = x at hTT
          obtain ⟨y, hy⟩ : ∃ y, y = tR x := ⟨_, rfl⟩
          rw [← hy] at hTT
          have HY := hid1 hy
          clear hy
          go_upto_region 21 with (go_at_call 23; refine (xor_tot n1 n1 m1 m1 A A (some ⟨gt, 0, none⟩) (some ⟨gt, 0, none⟩) ct ct Z HOZ.out.am HOZ.out.am HWZ.out.rd HWZ.out.rd).mono ?_; rintro e w3 ⟨v, rfl, hans, hb3⟩; rw [hx] at hans; obtain ⟨yo, yc, rfl, hro, hmb, hfs⟩ := hans; have r3 := keepr hb3 HRZ.out; obtain ⟨c0, c1, c2, c3, c4, c5⟩ := tdf_cells r3; have f0 := r3.frozen 0; have f1 := r3.frozen 1; have f2 := r3.frozen 2; have f3 := r3.frozen 3; have f4 := r3.frozen 4; have f5 := r3.frozen 5; have R3 := hid1 r3; clear r3)
          have hu : But x1.heap.size w3 (((w3.setCell ⟨x1.heap.size, 0, none⟩ (.int .i64 x.n)).setCell ⟨x1.heap.size, 1, none⟩ (.slice yo x.m yc)).setCell ⟨x1.heap.size, 5, none⟩ (.int .i64 x.e)) := ((But.self x1.heap.size 0 (.int .i64 x.n)).set (o := 1) (.slice yo x.m yc)).set (o := 5) (.int .i64 x.e)
          have hrow : (((w3.setCell ⟨x1.heap.size, 0, none⟩ (.int .i64 x.n)).setCell ⟨x1.heap.size, 1, none⟩ (.slice yo x.m yc)).setCell ⟨x1.heap.size, 5, none⟩ (.int .i64 x.e)).rowIs x1.heap.size 57 6 (tdf x.n yo x.m yc so t.l sc t.k t.mask x.e) := (((R3.out.set 0 _).set 1 _).set 5 _).congr fun j hj => by
            rcases (show j = 0 ∨ j = 1 ∨ j = 2 ∨ j = 3 ∨ j = 4 ∨ j = 5 by omega) with rfl | rfl | rfl | rfl | rfl | rfl <;> rfl
          have HU := hid1 hu
          have HRW := hid1 hrow
          clear hu hrow
          refine gen_world (fun P => But x1.heap.size w3 P ∧ P.rowIs x1.heap.size 57 6 (tdf y.n yo y.m yc so y.l sc y.k y.mask y.e)) ⟨HU.out, by have h9 := HRW.out; rw [HTL.out.1, HTL.out.2.1, HTL.out.2.2] at h9; rw [HY.out]; exact h9⟩ ?_
          rintro P ⟨hP, rP⟩
          clear HU HRW c0 c1 c2 c3 c4 c5 f0 f1 f2 f3 f4 f5
          have hpP := (HPZ.out.step hb3).trans (BP.but hP) fun b hb' e => by omega
          have HIP := hid1 ((HIZ.out.below hb3).but R3.out (.inr rfl) hP)
          have HPP := hid1 hpP
          have HRP := hid1 rP
          have HBP := hid1 (hP.row (row_ne (keepr hb3 HBZ.out) R3.out (by decide)) (keepr hb3 HBZ.out))
          have HAP := hid1 (hP.row (row_ne (keepr hb3 HAZ.out) R3.out (by decide)) (keepr hb3 HAZ.out))
          have HWP := hid1 ((HWZ.out.below hb3).but R3.out (by decide) hP)
          have HOP := hid1 (Ow.twice (HO.out.bp hpP HB.out))
          have HXR : Hid (Ro P yo y.m y.N) := hid1 (by rw [HY.out]; exact hro.bp (BP.but hP) fun p hp _ e => by have := hfs p hp; have := HRZ.out.lt; omega)
          have hym : y.m ≤ 262144 := by rw [HY.out]; exact hmb
          have hyl : y.l < 1 := by rw [HY.out]; exact Nat.one_pos
          have HTP : Hid (Rs P so y.l (fun k => .int .i8 (y.f k))) := hid1 fun j hj => absurd hj (by omega)
          clear HIZ HPZ HRZ HBZ HAZ HWZ HOZ R3 hP rP hpP hro hfs hb3
          go_cut [94] (fun s wx => s = .bool false ∧ Below P.heap.size P wx)
          case first =>
            go_region_held3 (fun X => ((X.cell? ⟨x1.heap.size, 0, none⟩ = some (.int .i64 y.n) ∧ X.cell? ⟨x1.heap.size, 1, none⟩ = some (.slice yo y.m yc) ∧ X.cell? ⟨x1.heap.size, 2, none⟩ = some (.slice so y.l sc) ∧ X.cell? ⟨x1.heap.size, 3, none⟩ = some (.int .i64 y.k) ∧ X.cell? ⟨x1.heap.size, 4, none⟩ = some (.int .u64 y.mask) ∧ X.cell? ⟨x1.heap.size, 5, none⟩ = some (.int .i64 y.e)) ∧
              X.cell? ⟨B0, 0, none⟩ = some (.int .i64 6) ∧ X.cell? ⟨B0, 1, none⟩ = some (.int .i64 n1) ∧ X.cell? ⟨B0, 2, none⟩ = some (.slice aa m1 ka) ∧ X.cell? ⟨B0, 3, none⟩ = some (.int .i64 n1) ∧ X.cell? ⟨B0, 4, none⟩ = some (.slice aa m1 ka) ∧ X.cell? ⟨B0, 5, none⟩ = some (.slice la l.length kl) ∧ X.cell? ⟨B0, 6, none⟩ = some (.slice ra J kr) ∧ X.cell? ⟨B0, 7, none⟩ = some (.int .i64 fr) ∧ X.cell? ⟨B0, 8, none⟩ = some (.int .i64 to_)) ∧ X.cell? ⟨x2.heap.size, 0, none⟩ = some (.int .i64 n1) ∧ X.cell? ⟨x2.heap.size, 1, none⟩ = some (.slice (some ⟨gt, 0, none⟩) m1 ct)) (((try dsimp only); (with_reducible refine kp17 HRP.out HBP.out HAP.out ?_); repeat (first | (with_reducible exact Below.refl _ _) | (with_reducible refine Below.drew ?_) | (with_reducible refine bl_drewN ?_ _) | (with_reducible refine bl_step ?_ (by assumption)))))
              (first
              | (go_at_call 25; refine (eqTold_same y.n y.m y.N y.l y.f yo zo so zs yc zc sc zsc y.k y.mask y.e y1 (by omega) (by omega) (HXR.out.below by1) u1 (HTP.out.below by1) u3).mono ?_; rintro e y2 ⟨rfl, hb2⟩)
              | (go_at_call 26; refine gen_calls (fun X => Below P.heap.size P X) (by repeat (first | (with_reducible exact Below.refl _ _) | (with_reducible refine Below.drew ?_) | (with_reducible refine bl_drewN ?_ _) | (with_reducible refine bl_step ?_ (by assumption)))) ?_; intro X hX; have hw := wanted_any ⟨6, n1, m1, A, n1, m1, A, l, J, n, m, N, fr, to_⟩ r aa ka aa ka la kl ra kr ad cp X HR.out (HOP.out.below hX); rw [hTT] at hw; refine hw.mono ?_; rintro e y1 ⟨v, rfl, hta, hb1⟩; obtain ⟨zo, zc, zs, zsc, rfl, u1, u2, u3, u4, u5, u6⟩ := hta; have by1 := bl_step hX hb1)
              | (go_at_call 28; refine gen_calls (fun X => Below P.heap.size P X) (by repeat (first | (with_reducible exact Below.refl _ _) | (with_reducible refine Below.drew ?_) | (with_reducible refine bl_drewN ?_ _) | (with_reducible refine bl_step ?_ (by assumption)))) ?_; intro X0 hX0; refine (kept_any n1 gt ct aa m1 A ka X0 HOP.out.am (HWP.out.below hX0) (HOP.out.a.below hX0)).mono ?_; rintro e y0 ⟨rfl, hb0⟩; have by0 := bl_step hX0 hb0))
            all_goals (refine meet_of (by assumption) ?_; go_meet; exact ⟨rfl, bl_step by1 hb2⟩)
          case rest =>
            obtain ⟨rfl, hbP⟩ := hcut
            have hiF := HIP.out.below hbP
            have hpF := HPP.out.step hbP
            clear HIP HPP HRP HBP HAP HXR HTP HOP HWP
            go_wp2_with fail
            exact ⟨⟨k + 1, by omega, by go_num, hiF, hpF⟩, by simp [intOf]; omega⟩
        by_cases e10 : kd = 10
        · subst e10
          have tl : t.l = 0 ∧ t.k = 0 ∧ t.mask = 0 := by rw [← HT.out]; simp [WS, tR]
          obtain ⟨x, hjx⟩ := JS.ex 2 (fun _ => n1) (fun _ => m1) (fun _ => A)
          have hTT : WS ⟨10, n1, m1, A, n1, m1, A, l, 2, fun _ => n1, fun _ => m1, fun _ => A, fr, to_⟩ x = tR x := by simp [WS]
          obtain ⟨y, hy⟩ : ∃ y, y = tR x := ⟨_, rfl⟩
          rw [← hy] at hTT
          have HY := hid1 hy
          have HTL := hid1 tl
          have HJX := hid1 hjx
          clear tl hjx hy
          go_upto_region 20 with (go_at_call 13; refine gen_calls (fun X => Below Z.heap.size Z X ∧ Jo Rd X (some ⟨Z.heap.size, 0, none⟩) 2 (fun _ => n1) (fun _ => m1) (fun _ => A) (fun _ => some ⟨gt, 0, none⟩) (fun _ => ct)) ⟨bl_alloc (Below.refl _ _) _, jo_two _ _ _ _ _ _ _ (HWZ.out.below (bl_alloc (Below.refl _ _) _)).rd⟩ ?_; rintro Q0 ⟨hQ, hjo⟩; refine (join_tot 2 (fun _ => n1) (fun _ => m1) (fun _ => A) Z.heap.size 2 (fun _ => some ⟨gt, 0, none⟩) (fun _ => ct) x HJX.out Q0 (by omega) hjo (fun _ _ => HOZ.out.am)).mono ?_; rintro e w3 ⟨v, rfl, hans, hb30⟩; have hb3 := bl_step hQ hb30; obtain ⟨yo, yc, rfl, hro, hmb, hfs⟩ := hans; have r3 := keepr hb3 HRZ.out; obtain ⟨c0, c1, c2, c3, c4, c5⟩ := tdf_cells r3; have f0 := r3.frozen 0; have f1 := r3.frozen 1; have f2 := r3.frozen 2; have f3 := r3.frozen 3; have f4 := r3.frozen 4; have f5 := r3.frozen 5; have R3 := hid1 r3; clear r3)
          have hzQ := hQ.size
          have hu : But x1.heap.size w3 (((w3.setCell ⟨x1.heap.size, 0, none⟩ (.int .i64 x.n)).setCell ⟨x1.heap.size, 1, none⟩ (.slice yo x.m yc)).setCell ⟨x1.heap.size, 5, none⟩ (.int .i64 x.e)) := ((But.self x1.heap.size 0 (.int .i64 x.n)).set (o := 1) (.slice yo x.m yc)).set (o := 5) (.int .i64 x.e)
          have hrow : (((w3.setCell ⟨x1.heap.size, 0, none⟩ (.int .i64 x.n)).setCell ⟨x1.heap.size, 1, none⟩ (.slice yo x.m yc)).setCell ⟨x1.heap.size, 5, none⟩ (.int .i64 x.e)).rowIs x1.heap.size 57 6 (tdf x.n yo x.m yc so t.l sc t.k t.mask x.e) := (((R3.out.set 0 _).set 1 _).set 5 _).congr fun j hj => by
            rcases (show j = 0 ∨ j = 1 ∨ j = 2 ∨ j = 3 ∨ j = 4 ∨ j = 5 by omega) with rfl | rfl | rfl | rfl | rfl | rfl <;> rfl
          have HU := hid1 hu
          have HRW := hid1 hrow
          clear hu hrow
          refine gen_world (fun P => But x1.heap.size w3 P ∧ P.rowIs x1.heap.size 57 6 (tdf y.n yo y.m yc so y.l sc y.k y.mask y.e)) ⟨HU.out, by have h9 := HRW.out; rw [HTL.out.1, HTL.out.2.1, HTL.out.2.2] at h9; rw [HY.out]; exact h9⟩ ?_
          rintro G ⟨hP, rP⟩
          clear HU HRW c0 c1 c2 c3 c4 c5 f0 f1 f2 f3 f4 f5 hQ hjo
          have hpP := (HPZ.out.step hb3).trans (BP.but hP) fun b hb' e => by omega
          have HIG := hid1 ((HIZ.out.below hb3).but R3.out (.inr rfl) hP)
          have HPG := hid1 hpP
          have HRG := hid1 rP
          have hbG := hP.row (row_ne (keepr hb3 HBZ.out) R3.out (by decide)) (keepr hb3 HBZ.out)
          have HAG := hid1 (hP.row (row_ne (keepr hb3 HAZ.out) R3.out (by decide)) (keepr hb3 HAZ.out))
          have HWG := hid1 ((HWZ.out.below hb3).but R3.out (by decide) hP)
          have HXG : Hid (Ro G yo y.m y.N) := hid1 (by rw [HY.out]; exact hro.bp (BP.but hP) fun p hp _ e => by have := hfs p hp; have := HRZ.out.lt; omega)
          have HFS := hid1 hfs
          have hym : y.m ≤ 262144 := by rw [HY.out]; exact hmb
          have hyl : y.l < 1 := by rw [HY.out]; exact Nat.one_pos
          have hzG : w.heap.size ≤ G.heap.size := hpP.size
          clear HIZ HPZ HRZ HBZ HAZ HWZ HOZ R3 hP rP hpP hro hfs hb3
          obtain ⟨p0, p1, p2, p3, p4, p5, p6, p7, p8⟩ := op_cells hbG
          have g6 := hbG.frozen 6
          have hBG : B0 < G.heap.size := hbG.lt
          have nBG : B0 ≠ G.heap.size := by omega
          have HBG := hid1 hbG
          clear hbG
          go_upto_region 21 with fail
          refine gen_world (fun P => ∃ Q0, But B0 G Q0 ∧ Below Q0.heap.size Q0 P ∧ Jo Ro P (some ⟨G.heap.size, 0, none⟩) 2 (fun _ => n1) (fun _ => m1) (fun _ => A) (fun _ => aa) (fun _ => ka) ∧ P.rowIs B0 55 9 (opf 10 n1 aa m1 ka n1 aa m1 ka la l.length kl (some ⟨G.heap.size, 0, none⟩) 2 2 fr to_)) ?_ ?_
          · have h1 : But B0 G (G.setCell ⟨B0, 6, none⟩ (.slice (some ⟨G.heap.size, 0, none⟩) 2 2)) := But.self _ _ _
            have h2 := bl_alloc (Below.refl (G.setCell ⟨B0, 6, none⟩ (.slice (some ⟨G.heap.size, 0, none⟩) 2 2)).heap.size (G.setCell ⟨B0, 6, none⟩ (.slice (some ⟨G.heap.size, 0, none⟩) 2 2))) (.cells #[.int .i64 n1, .slice aa m1 ka, .int .i64 n1, .slice aa m1 ka] 27)
            have h3 := (HPG.out.trans (BP.but h1) fun b hb' e => by omega).step h2
            have hjo := jo_two_o (w := G.setCell ⟨B0, 6, none⟩ (.slice (some ⟨G.heap.size, 0, none⟩) 2 2)) (n1 := n1) (ao := aa) (m := m1) (N := A) (c := ka) 27 ((HO.out.bp h3 HB.out).a)
            rw [show (G.setCell ⟨B0, 6, none⟩ (.slice (some ⟨G.heap.size, 0, none⟩) 2 2)).heap.size = G.heap.size by simp] at hjo
            exact ⟨_, h1, h2, hjo, ((HBG.out.set 6 _).congr fun j hj => by
              rcases (show j = 0 ∨ j = 1 ∨ j = 2 ∨ j = 3 ∨ j = 4 ∨ j = 5 ∨ j = 6 ∨ j = 7 ∨ j = 8 by omega) with rfl | rfl | rfl | rfl | rfl | rfl | rfl | rfl | rfl <;> rfl).alloc _⟩
          rintro P ⟨Q0, hQ, hP, hjo, rP⟩
          clear p0 p1 p2 p3 p4 p5 p6 p7 p8 g6
          have hpP := (HPG.out.trans (BP.but hQ) fun b hb' e => by omega).step hP
          have HIP := hid1 ((HIG.out.but HBG.out (.inl rfl) hQ).below hP)
          have HPP := hid1 hpP
          have HBP := hid1 rP
          have HRP := hid1 (keepr hP (hQ.row (row_ne HRG.out HBG.out (by decide)) HRG.out))
          have HAP := hid1 (keepr hP (hQ.row (row_ne HAG.out HBG.out (by decide)) HAG.out))
          have HWP := hid1 ((HWG.out.but HBG.out (by decide) hQ).below hP)
          have HOP := hid1 (Ow.join (HO.out.bp hpP HB.out) hjo)
          have HXR : Hid (Ro P yo y.m y.N) := hid1 ((HXG.out.bp (BP.but hQ) fun p hp h0 e => by have := HFS.out p hp; have := HB0.out; omega).below hP)
          have HTP : Hid (Rs P so y.l (fun k => .int .i8 (y.f k))) := hid1 fun j hj => absurd hj (by omega)
          clear HIG HPG HRG HBG HAG HWG HXG hP rP hpP hQ hjo
          go_cut [94] (fun s wx => s = .bool false ∧ Below P.heap.size P wx)
          case first =>
            go_region_held3 (fun X => ((X.cell? ⟨x1.heap.size, 0, none⟩ = some (.int .i64 y.n) ∧ X.cell? ⟨x1.heap.size, 1, none⟩ = some (.slice yo y.m yc) ∧ X.cell? ⟨x1.heap.size, 2, none⟩ = some (.slice so y.l sc) ∧ X.cell? ⟨x1.heap.size, 3, none⟩ = some (.int .i64 y.k) ∧ X.cell? ⟨x1.heap.size, 4, none⟩ = some (.int .u64 y.mask) ∧ X.cell? ⟨x1.heap.size, 5, none⟩ = some (.int .i64 y.e)) ∧
              X.cell? ⟨B0, 0, none⟩ = some (.int .i64 10) ∧ X.cell? ⟨B0, 1, none⟩ = some (.int .i64 n1) ∧ X.cell? ⟨B0, 2, none⟩ = some (.slice aa m1 ka) ∧ X.cell? ⟨B0, 3, none⟩ = some (.int .i64 n1) ∧ X.cell? ⟨B0, 4, none⟩ = some (.slice aa m1 ka) ∧ X.cell? ⟨B0, 5, none⟩ = some (.slice la l.length kl) ∧ X.cell? ⟨B0, 6, none⟩ = some (.slice (some ⟨G.heap.size, 0, none⟩) 2 2) ∧ X.cell? ⟨B0, 7, none⟩ = some (.int .i64 fr) ∧ X.cell? ⟨B0, 8, none⟩ = some (.int .i64 to_)) ∧ X.cell? ⟨x2.heap.size, 0, none⟩ = some (.int .i64 n1) ∧ X.cell? ⟨x2.heap.size, 1, none⟩ = some (.slice (some ⟨gt, 0, none⟩) m1 ct)) (((try dsimp only); (with_reducible refine kp17 HRP.out HBP.out HAP.out ?_); repeat (first | (with_reducible exact Below.refl _ _) | (with_reducible refine Below.drew ?_) | (with_reducible refine bl_drewN ?_ _) | (with_reducible refine bl_step ?_ (by assumption)))))
              (first
              | (go_at_call 25; refine (eqTold_same y.n y.m y.N y.l y.f yo zo so zs yc zc sc zsc y.k y.mask y.e y1 (by omega) (by omega) (HXR.out.below by1) u1 (HTP.out.below by1) u3).mono ?_; rintro e y2 ⟨rfl, hb2⟩)
              | (go_at_call 26; refine gen_calls (fun X => Below P.heap.size P X) (by repeat (first | (with_reducible exact Below.refl _ _) | (with_reducible refine Below.drew ?_) | (with_reducible refine bl_drewN ?_ _) | (with_reducible refine bl_step ?_ (by assumption)))) ?_; intro X hX; have hw := wanted_any ⟨10, n1, m1, A, n1, m1, A, l, 2, fun _ => n1, fun _ => m1, fun _ => A, fr, to_⟩ x aa ka aa ka la kl (some ⟨G.heap.size, 0, none⟩) 2 (fun _ => aa) (fun _ => ka) X HJX.out (HOP.out.below hX); rw [hTT] at hw; refine hw.mono ?_; rintro e y1 ⟨v, rfl, hta, hb1⟩; obtain ⟨zo, zc, zs, zsc, rfl, u1, u2, u3, u4, u5, u6⟩ := hta; have by1 := bl_step hX hb1)
              | (go_at_call 28; refine gen_calls (fun X => Below P.heap.size P X) (by repeat (first | (with_reducible exact Below.refl _ _) | (with_reducible refine Below.drew ?_) | (with_reducible refine bl_drewN ?_ _) | (with_reducible refine bl_step ?_ (by assumption)))) ?_; intro X0 hX0; refine (kept_any n1 gt ct aa m1 A ka X0 HOP.out.am (HWP.out.below hX0) (HOP.out.a.below hX0)).mono ?_; rintro e y0 ⟨rfl, hb0⟩; have by0 := bl_step hX0 hb0))
            all_goals (refine meet_of (by assumption) ?_; go_meet; exact ⟨rfl, bl_step by1 hb2⟩)
          case rest =>
            obtain ⟨rfl, hbP⟩ := hcut
            have hiF := HIP.out.below hbP
            have hpF := HPP.out.step hbP
            clear HIP HPP HRP HBP HAP HXR HTP HOP HWP
            go_wp2_with fail
            exact ⟨⟨k + 1, by omega, by go_num, hiF, hpF⟩, by simp [intOf]; omega⟩
        have i5 : ¬ kd = (5 : Int) := e5
        have i6 : ¬ kd = (6 : Int) := e6
        have i10 : ¬ kd = (10 : Int) := e10
        have hiF := HIZ.out
        have hpF := HPZ.out
        clear HIZ HPZ HRZ HBZ HAZ HWZ HOZ
        go_wp2_with fail
        exact ⟨⟨k + 1, by omega, by go_num, hiF, hpF⟩, by simp [intOf]; omega⟩
    · have hkc : k = K := by omega
      subst hkc
      go_wp2_with fail
      go_ret
      have hp := HP.out
      exact ⟨rfl, hp.os, hp.tape, hp.output, hp.size, fun b hb => hp.block b hb (by omega)⟩
end Go.Proofs.Yteghelmbibpohaa
namespace Go.Proofs.Yteghelmbibpohaa
open Go.ChangeShapes Go.WideShapes Go.ChangeAt Go.RowKit

set_option maxRecDepth 100000 in
theorem bitsAllUpto_lifted (os : Os) (started : os.Started) (H : Type) (enc : TypeId × Value → H) (F : Stop.Interp) :
    ReturnsInHanded {} Try.checked os 7 .any ((Rows.OpenSpec.upto Rows.bitsAllSpec).pre6 enc Try.prog Try.f7 Rows.bitsAllUptoRow.domain false) (((Rows.OpenSpec.upto Rows.bitsAllSpec).at F).post enc Try.prog Try.f7 false true false false) := by
  refine returnsInHanded_of_cond (C := Try.checked) (s := Rows.OpenSpec.upto Rows.bitsAllSpec) (k := Rows.uptoSmall) rfl own started (by kernel_rfl) Try.func7
    (OpenSpec.witness (enc := enc) (C := Try.checked) (s := Rows.OpenSpec.upto Rows.bitsAllSpec) (k := Rows.uptoSmall) rfl false ⟨#[], #[.slice none 0 0], []⟩ 8 (by kernel_rfl) (by kernel_rfl) (by kernel_rfl)
      (x := ([.nil], [], [])) (by kernel_rfl) rfl (by kernel_rfl)) ?_
  intro W base args ds gs before hval0 hW _ hk _
  have hval : ∀ (j : Nat) t v, Try.f7.params[j]? = some t → args[j]? = some v → Value.okWide Try.prog W .any base t v := hval0
  have hW' := hW
  obtain ⟨p, q, hA0, hV, rfl, hfz, hnd⟩ := hW
  have hA : DataW.TrodAll enc Try.prog W 0 (fun _ => true) true Try.f7.params.toList args.toList ds p := hA0
  rw [Try.params7] at hA hval
  obtain ⟨v0, vs0, d0, ds0, p0, q0, hargs, rfl, rfl, h0, r0⟩ := trodAll_cons hA
  obtain ⟨rfl, rfl, rfl⟩ := trodAll_nil r0
  obtain rfl : args = #[v0] := by cases args; simp_all
  obtain ⟨rfl, rfl⟩ := trodVars_none hV
  have lt0 : ∀ x ∈ p0, x.block < W.heap.size := by obtain ⟨m, hm⟩ := h0; exact DataW.trod_lt m _ _ _ hm
  have k0 := h0
  have hz : Rows.uptoBulk d0 ≤ 1048576 := by
    have h : Rows.uptoBulkAll ([d0] ++ []) ≤ 1048576 := of_decide_eq_true hk
    simp only [List.append_nil, Rows.uptoBulkAll] at h
    omega
  obtain ⟨ao, K, cap, rfl, hK, hL⟩ := open_ops (hval 0 48 v0 rfl rfl) h0 hz
  clear hA0 hval0
  refine (bitsAll_any ao K cap W hK hL).mono fun e W' ⟨he, bel⟩ => ?_
  subst he
  exact ⟨_, rfl, _, _, _, [], _, [], hW', trodAll_mk1 (shut_bool Try.underlying4 _), (trodAll_cons_mk (Below.trod laidOut (by kernel_rfl) (of_decide_eq_true (by kernel_rfl)) k0 bel lt0) trodAll_mk0), rfl, bel.frame _, fun h => by cases h⟩

theorem bitsAllUpto_holds : Rows.BitsAllUptoSaid :=
  OpenClaim.holds_of_cond 7 Try.f7 rfl rfl rfl rfl rfl rfl rfl ⟨rfl, rfl, rfl, rfl, rfl⟩ rfl rfl rfl rfl rfl (by kernel_rfl) Try.func7 (by kernel_rfl)
    (of_decide_eq_true (by kernel_rfl)) (by unfold Func.isWrapper; first | (rw [if_pos (by decide +kernel)]; kernel_rfl) | (rw [if_neg (by decide +kernel)]; exact ⟨rfl, rfl⟩))
    (fun os started H enc _ F => bitsAllUpto_lifted os started H enc F)
#print axioms bitsAllUpto_holds
end Go.Proofs.Yteghelmbibpohaa
