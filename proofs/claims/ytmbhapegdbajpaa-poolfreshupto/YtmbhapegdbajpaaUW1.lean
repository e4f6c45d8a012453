/- PACKAGE pool: or, and, seen, joinRuns. -/
import Derived.Test.YtmbhapegdbajpaaKW6
import Derived.Test.YtmbhapegdbajpaaUM1
import Derived.Deep.RegionHeld3
import Derived.Deep.DeepCutAuto
namespace Go.Proofs.Ytmbhapegdbajpaa
open Go.RowKit Go.Shelf

/-- copy into a row of words, from p on, out of any cells. -/
theorem copy_genU {w : World} {G T p L n s c d : Nat} {a : Addr} {f h : Nat → Value} (hp : p + d ≤ T) (hL : d = Nat.min s L) (r : w.rowIs G 47 T f) (hs : ∀ j, j < d → w.cell? (a.add j) = some (h j)) (h1 : ∀ k, (h k).oneCell' = true) :
    ∃ w', (∀ ty, (Builtin.copy_ #[33, 33] ty #[.slice (some ⟨G, p, none⟩) L n, .slice (some a) s c]).run Try.prog w = .ok (.int .i64 d) w') ∧ w'.rowIs G 47 T (fun j => if p ≤ j ∧ j < p + d then h (j - p) else f j) ∧ But G w w' := by
  obtain ⟨cur, hb, hsz, hc⟩ := r
  have hlen : ((List.range d).map h).length = d := by simp
  refine ⟨w.setRow G (cur.toList.take p ++ (List.range d).map h ++ cur.toList.drop (p + d)).toArray, fun ty => ?_, ⟨(cur.toList.take p ++ (List.range d).map h ++ cur.toList.drop (p + d)).toArray, ?_, ?_, ?_⟩, ?_⟩
  · have := run_copy_row (P := Try.prog) w 33 33 ty 47 G p L n a s c cur 47 ((List.range d).map h) und_u64s (by
      obtain ⟨i, hi, _, hz, _⟩ := info_parts info_u64
      rw [hi]; simp [hz]) hb (by rw [hlen]; exact hL) (fun j v hv => by
        rw [List.getElem?_map] at hv
        by_cases hj : j < d
        · rw [List.getElem?_range hj] at hv
          cases hv
          exact hs j hj
        · rw [List.getElem?_eq_none (by simpa using hj)] at hv
          cases hv) (by rw [hlen]; omega) (fun v hv => by
        obtain ⟨k, _, rfl⟩ := List.mem_map.1 hv
        exact h1 k)
    rw [hlen] at this
    exact this
  · exact setRow_heap w G _ _ _ _ hb
  · simp; omega
  · intro i hi
    rw [List.getElem?_toArray]
    show _ = some (if p ≤ i ∧ i < p + d then h (i - p) else f i)
    have hcl : cur.toList.length = T := by simpa using hsz
    by_cases e1 : i < p
    · rw [if_neg (by omega), List.getElem?_append_left (by simp; omega), List.getElem?_append_left (by simp; omega), List.getElem?_take_of_lt e1]
      simpa using hc i hi
    · by_cases e2 : i < p + d
      · rw [if_pos (by omega), List.getElem?_append_left (by simp; omega), List.getElem?_append_right (by simp; omega)]
        simp only [List.length_take, hcl]
        rw [show min p T = p by omega, List.getElem?_map, List.getElem?_range (by omega)]
        rfl
      · rw [if_neg (by omega), List.getElem?_append_right (by simp; omega)]
        simp only [List.length_append, List.length_take, hcl, hlen]
        rw [show min p T = p by omega, List.getElem?_drop, show p + d + (i - (p + d)) = i by omega]
        simpa using hc i hi
  · exact ⟨rfl, rfl, rfl, by simp [World.setRow], fun k hk hne => setRow_other w G k _ hne⟩
theorem wf_oneU (N k : Nat) : (wf N k).oneCell' = true := rfl
/-- The joining of two words, as a value. -/
abbrev jfn (F : Nat) : Value := .func (.func F) #[] #[]
def Jok (al : Bool) (F : Nat) : Prop := (∀ (args : Array Value) (w : World), (callFunc F args).run Try.prog w = .ok (.enter F args) w) ∧ ∀ (a b : Nat) (w : World), a < 18446744073709551616 → b < 18446744073709551616 → Calls Try.prog F #[.int .u64 a, .int .u64 b] w fun e w' => e = .returned (.int .u64 ((jo al a b : Nat) : Int)) ∧ w' = w
theorem or_is : Jok false 19 := by
  refine ⟨fun _ _ => rfl, ?_⟩
  intro a b w ha hb
  have h := or_u64 a b ha hb
  go_enter Try.func19, Try.ntmps19
  go_wp2
  go_ret
  exact ⟨rfl, rfl⟩
theorem and_is : Jok true 20 := by
  refine ⟨fun _ _ => rfl, ?_⟩
  intro a b w ha hb
  have h := and_u64 a b ha hb
  go_enter Try.func20, Try.ntmps20
  go_wp2
  go_ret
  exact ⟨rfl, rfl⟩
set_option maxRecDepth 100000 in
theorem seen_any (s n l E : Nat) (hE : s + n = E) (hs : s ≤ 1073741824) (hn : n ≤ 1073741824) (hl : E ≤ l) (w : World) :
    Calls Try.prog 26 #[.int .i64 s, .int .i64 n, .int .i64 l] w fun e w' => e = .returned (.tuple #[.int .i64 s, .int .i64 E]) ∧ w' = w := by
  go_enter Try.func26, Try.ntmps26
  go_wp2
  all_goals (refine bodyPost_ret (v := .tuple #[.int .i64 s, .int .i64 E]) ?_ rfl ⟨rfl, rfl⟩; simp [results, Try.results26, go_sem]; (try omega))
/-- A run of s words in a block, from p on, that read as X. -/
def sgU (f : Nat → Value) (p s : Nat) (X : Nat → Nat) : Nat → Value := fun j => if p ≤ j ∧ j < p + s then .int .u64 (X (j - p) : Nat) else f j
theorem sgU_set {f : Nat → Value} {p s i : Nat} {X Y : Nat → Nat} {v : Nat} (hi : i < s) (h : ∀ j, (if j = i then v else X j) = Y j) (k : Nat) : (if k = p + i then .int .u64 (v : Nat) else sgU f p s X k) = sgU f p s Y k := by
  unfold sgU
  by_cases e : k = p + i
  · subst e
    rw [if_pos rfl, if_pos ⟨by omega, by omega⟩, ← h]
    rw [show p + i - p = i by omega, if_pos rfl]
  · rw [if_neg e]
    by_cases e2 : p ≤ k ∧ k < p + s
    · rw [if_pos e2, if_pos e2, ← h, if_neg (by omega)]
    · rw [if_neg e2, if_neg e2]
theorem sgU_at {f : Nat → Value} {p s i : Nat} {X : Nat → Nat} (hi : i < s) : sgU f p s X (p + i) = .int .u64 (X i : Nat) := by
  unfold sgU
  rw [if_pos ⟨by omega, by omega⟩, show p + i - p = i by omega]
theorem sgU_congr {f : Nat → Value} {p s : Nat} {X Y : Nat → Nat} (h : ∀ k, k < s → X k = Y k) (j : Nat) : sgU f p s X j = sgU f p s Y j := by
  unfold sgU
  by_cases e : p ≤ j ∧ j < p + s
  · rw [if_pos e, if_pos e, h _ (by omega)]
  · rw [if_neg e, if_neg e]
set_option maxHeartbeats 1600000 in
set_option maxRecDepth 100000 in
theorem joinRuns_any (al : Bool) (F : Nat) (HJ : Jok al F) (G T p s n g o m cap N a k E : Nat) (hE : a + k + 1 = E) (f : Nat → Value) (w : World) (h0 : 0 < s) (hp : p + s ≤ T) (hT : T ≤ 1073741824) (hm : (a + k + 1) * s ≤ m) (hm2 : m ≤ 1073741824) (hmc : m ≤ cap) (ha : a ≤ 1073741824) (hk : k ≤ 1073741824)
    (hne : g ≠ G) (row : w.rowIs G 47 T f) (rd : Wr w (some ⟨g, o, none⟩) m N) :
    Calls Try.prog 27 #[.slice (some ⟨G, p, none⟩) s n, .slice (some ⟨g, o, none⟩) m cap, .int .i64 a, .int .i64 E, jfn F] w fun e w' => e = .returned (.tuple #[]) ∧ w'.rowIs G 47 T (sgU f p s (wd (jr al N s a k))) ∧ But G w w' := by
  have HM : ∀ i, i ≤ k → (a + i) * s + s ≤ m := fun i hi => by
    rw [← Nat.succ_mul]; exact Nat.le_trans (Nat.mul_le_mul_right _ (by omega)) hm
  have HM' := hid1 HM
  have m0 := HM 0 (Nat.zero_le _)
  rw [Nat.add_zero] at m0
  obtain ⟨as_, has⟩ : ∃ x, a * s = x := ⟨_, rfl⟩
  rw [has] at m0
  have p1 : (a : Int) * (s : Int) = (as_ : Nat) := by rw [← has]; push_cast; rfl
  have w1 : IntKind.i64.wrap (as_ : Int) = (as_ : Int) := by rw [IntKind.wrap_i64]; omega
  have cells : ∀ j, j < s → w.cell? ((⟨g, o + as_, none⟩ : Addr).add j) = some (wf N (as_ + j)) := by
    intro j hj
    obtain ⟨g', o', e, c⟩ := rd.2 (as_ + j) (by omega)
    cases e
    rw [← Nat.add_assoc] at c
    by_cases e : j = 0
    · subst e; simpa [Addr.add] using c
    · simpa [Addr.add, e] using c
  obtain ⟨w2, hcp, row2, but2⟩ := copy_genU (w := w) (G := G) (T := T) (p := p) (L := s) (n := n) (s := m - as_) (c := cap - as_) (d := s) (a := ⟨g, o + as_, none⟩) (h := fun j => wf N (as_ + j)) (f := f) hp (Nat.min_eq_right (by omega)).symm row cells (fun _ => rfl)
  have row3 : w2.rowIs G 47 T (sgU f p s (wd (jr al N s a 0))) := row2.congr fun j hj => by
    unfold sgU
    by_cases e : p ≤ j ∧ j < p + s
    · rw [if_pos e, if_pos e]
      show wf N (as_ + (j - p)) = _
      unfold wf
      rw [← has, ← pl_wd (N := N) (i := a) (show j - p < s by omega)]; rfl
    · rw [if_neg e, if_neg e]
  have i1 : (0 : Int) ≤ (as_ : Int) := by omega
  have i2 : (as_ : Int) ≤ (m : Int) := by omega
  have i3 : (m : Int) ≤ (cap : Int) := by omega
  have n1 : ¬ as_ = m := by omega
  have n2 : ¬ as_ = cap := by omega
  have ROW3 := hid1 row3
  have BUT2 := hid1 but2
  have RD := hid1 rd
  clear row2 row3 but2 cells row rd HM
  go_enter Try.func27, Try.ntmps27
  go_wp2_with fail
  go_loopw [11] (fun i wr => ∃ j r : Nat, j ≤ k ∧ r = a + (j + 1) ∧ i = .int .i64 r ∧ wr.rowIs G 47 T (sgU f p s (wd (jr al N s a j))) ∧ But G w wr) (fun i _ => E - (intOf i).toNat)
  case atStart => exact ⟨0, a + 1, Nat.zero_le _, rfl, by go_num, ROW3.out, BUT2.out⟩
  case round =>
    obtain ⟨j, r, hj, hr, rfl, r0, B0⟩ := hrel
    by_cases hlt : j < k
    · have hmj := HM'.out (j + 1) (by omega)
      obtain ⟨y, hy⟩ : ∃ y, (a + (j + 1)) * s = y := ⟨_, rfl⟩
      obtain ⟨z, hz⟩ : ∃ z, y + s = z := ⟨_, rfl⟩
      have q1 : (r : Int) * (s : Int) = (y : Nat) := by rw [← hy, ← hr]; push_cast; rfl
      have q2 : ((r : Int) + 1) * (s : Int) = (z : Nat) := by rw [← hz, ← hy, ← hr, ← Nat.succ_mul]; push_cast; rfl
      rw [hy] at hmj
      have HY := hid1 hy
      have v1 : IntKind.i64.wrap (y : Int) = (y : Int) := by rw [IntKind.wrap_i64]; omega
      have v2 : IntKind.i64.wrap (z : Int) = (z : Int) := by rw [IntKind.wrap_i64]; omega
      have v3 : IntKind.i64.wrap ((r : Int) + 1) = (r : Int) + 1 := by rw [IntKind.wrap_i64]; omega
      have j1 : (0 : Int) ≤ (y : Int) := by omega
      have j2 : (y : Int) ≤ (z : Int) := by omega
      have j3 : (z : Int) ≤ (cap : Int) := by omega
      have l1 : (r : Int) < (E : Int) := by omega
      have t1 : ¬ cap = y := by omega
      have t2 : z - y = s := by omega
      have HZ := hid1 hz
      have HR := hid1 hr
      clear hz hr
      have R0 := hid1 r0
      have BB0 := hid1 B0
      clear hy r0 B0
      go_wp2_with fail
      go_loopw [40] (fun i wr => ∃ q : Nat, q ≤ s ∧ i = .int .i64 q ∧ wr.rowIs G 47 T (sgU f p s (jw al N s a j q)) ∧ But G w wr) (fun i _ => s - (intOf i).toNat)
      case atStart => exact ⟨0, Nat.zero_le _, rfl, R0.out.congr fun z _ => sgU_congr (fun u _ => (jw_zero al N s a j u).symm) z, BB0.out⟩
      case round =>
        obtain ⟨q, hq, rfl, r0, B0⟩ := hrel
        by_cases hqs : q < s
        · obtain ⟨g', o', e, c1⟩ := RD.out.2 (y + q) (by omega)
          cases e
          have c2 := B0.cell hne c1
          unfold wf at c2
          rw [← Nat.add_assoc] at c2
          have c3 := r0.cell (i := p + q) (by omega)
          rw [sgU_at hqs] at c3
          have f3 := r0.frozen (p + q)
          have iq0 : (0 : Int) ≤ (q : Int) := by omega
          have iq1 : (q : Int) < (s : Int) := by omega
          have HC := hid1 (HJ.2 (jw al N s a j q q) (wd N (y + q)))
          have x1 := jw_lt al N s a j q q
          have x2 := wd_lt N (y + q)
          have HST := hid1 (fun z => jw_step (al := al) (N := N) (s := s) (a := a) (n := j) (i := q) hqs z)
          rw [HY.out] at HST
          have R1 := hid1 r0
          have B1 := hid1 B0
          clear c1 r0 B0
          generalize jw al N s a j q q = xa at *
          generalize wd N (y + q) = xb at *
          have HEN := HJ.1
          go_wp2_with fail
          refine (HC.out _ x1 x2).mono ?_
          rintro e w3 ⟨rfl, rfl⟩
          go_wp2_with fail
          exact ⟨⟨q + 1, by omega, by go_num, (R1.out.set (p + q) _).congr fun u _ => sgU_set hqs (fun z => HST.out z) u, B1.out.set _⟩, by simp [intOf]; omega⟩
        · obtain rfl : q = s := by omega
          go_wp2_with fail
          exact ⟨⟨j + 1, r + 1, by omega, by rw [HR.out]; rfl, by go_num, r0.congr fun z _ => sgU_congr (fun u hu => jw_all hu) z, B0⟩, by simp [intOf]; omega⟩
    · obtain rfl : j = k := by omega
      obtain rfl : r = E := by omega
      go_wp2_with fail
      go_end0
      exact ⟨rfl, r0, B0⟩
end Go.Proofs.Ytmbhapegdbajpaa
