/- heddlelaw11: line. -/
import Derived.Test.YtakoicolffkbmaaGW8
namespace Go.Proofs.Ytakoicolffkbmaa
open Go.RowKit

/-- The i-th byte of a string. -/
def ch (s : ByteArray) (i : Nat) : Nat := (s.data.toList.getD i 0).toNat
theorem ch_at {s : ByteArray} {k : Nat} (h : k < s.size) : s[k].toNat = ch s k := by
  have h2 : k < s.data.toList.length := by simpa using h
  unfold ch
  have e : s[k] = s.data.toList[k]'h2 := rfl
  rw [e, List.getD_eq_getElem?_getD, List.getElem?_eq_getElem h2]; rfl
/-- Where a plus stands; where something counts. -/
def pl (s : ByteArray) (i : Nat) : Bool := decide (ch s i = 43)
def nz (s : ByteArray) (i : Nat) : Bool := decide (ch s i ≠ 48)
/-- A line as a row. -/
abbrev lnS (s : ByteArray) (n g : Nat) : Bt := ⟨n, some ⟨g, 0, none⟩, nw n, nw n, bn (pl s) n⟩
abbrev lnM (s : ByteArray) (n g : Nat) : Bt := ⟨n, some ⟨g, 0, none⟩, nw n, nw n, bn (nz s) n⟩
theorem bn_or {f : Nat → Bool} {i q r : Nat} (hq : i / 64 = q) (hr : i % 64 = r) (h : f i = true) (k : Nat) : wf (bn f (i + 1)) k = if k = q then .int .u64 ((wd (bn f i) q ||| 2 ^ r : Nat) : Int) else wf (bn f i) k := by
  unfold wf
  rw [bn_wd, hq, hr, h]
  by_cases e : k = q
  · subst e; simp
  · simp [e]
theorem bn_not {f : Nat → Bool} {i : Nat} (h : f i = false) : bn f (i + 1) = bn f i := by
  have hA : bn f i < 2 ^ (i + 1) := Nat.lt_of_lt_of_le (bn_lt f i) (pow_mono (by omega))
  refine bn_ext hA fun j hj => ?_
  rw [bn_bit]
  by_cases e : j = i
  · subst e; simp [h]
  · have : j < i := by omega
    simp [this]
theorem or_bit {x r : Nat} (hx : x < 18446744073709551616) (hr : r < 64) : bits .or .u64 (x : Int) (IntKind.u64.wrap (2 ^ r)) = ((x ||| 2 ^ r : Nat) : Int) := by
  have H64 : (2 : Nat) ^ r < 18446744073709551616 := by rw [two64]; exact Nat.pow_lt_pow_right (by decide) hr
  have e : IntKind.u64.wrap (2 ^ r) = ((2 ^ r : Nat) : Int) := by
    rw [show ((2 : Int) ^ r) = ((2 ^ r : Nat) : Int) by simp, IntKind.wrap_u64]
    generalize 2 ^ r = y at *; omega
  rw [e]; exact or_u64 _ _ hx H64
/-- The memory of a line that is being made. -/
structure Lm (w wr : World) (s : ByteArray) (n g1 g2 rb i j : Nat) : Prop where
  a : wr.rowIs g1 83 (nw n) (wf (bn (pl s) i))
  b : wr.rowIs g2 83 (nw n) (wf (bn (nz s) j))
  r : wr.rowIs rb 28 4 (qf (lnS s n g1) (lnM s n g2))
  z : wr.rowIs w.heap.size 28 4 (qf ⟨0, none, 0, 0, 0⟩ ⟨0, none, 0, 0, 0⟩)
  n0 : g1 ≠ g2
  n1 : rb ≠ w.heap.size
  l : w.heap.size ≤ g1 ∧ w.heap.size ≤ g2
  p : Below w.heap.size w wr
theorem Lm.setB {w wr : World} {s : ByteArray} {n g1 g2 rb i : Nat} (h : Lm w wr s n g1 g2 rb i i) (hz : nz s i = true) {q r : Nat} (hq : i / 64 = q) (hr : i % 64 = r) :
    Lm w (wr.setCell ⟨g2, q, none⟩ (.int .u64 ((wd (bn (nz s) i) q ||| 2 ^ r : Nat) : Int))) s n g1 g2 rb i (i + 1) :=
  ⟨h.a.setOther h.n0 _, (h.b.set q _).congr fun k _ => by rw [bn_or hq hr hz], h.r.setOther (row_ne h.r h.b (by decide)) _, h.z.setOther (row_ne h.z h.b (by decide)) _, h.n0, h.n1, h.l, bl_set h.p h.l.2 _⟩
theorem Lm.setA {w wr : World} {s : ByteArray} {n g1 g2 rb i j : Nat} (h : Lm w wr s n g1 g2 rb i j) (hz : pl s i = true) {q r : Nat} (hq : i / 64 = q) (hr : i % 64 = r) :
    Lm w (wr.setCell ⟨g1, q, none⟩ (.int .u64 ((wd (bn (pl s) i) q ||| 2 ^ r : Nat) : Int))) s n g1 g2 rb (i + 1) j :=
  ⟨(h.a.set q _).congr fun k _ => by rw [bn_or hq hr hz], h.b.setOther (Ne.symm h.n0) _, h.r.setOther (row_ne h.r h.a (by decide)) _, h.z.setOther (row_ne h.z h.a (by decide)) _, h.n0, h.n1, h.l, bl_set h.p h.l.1 _⟩
theorem Lm.noA {w wr : World} {s : ByteArray} {n g1 g2 rb i j : Nat} (h : Lm w wr s n g1 g2 rb i j) (hz : pl s i = false) : Lm w wr s n g1 g2 rb (i + 1) j :=
  ⟨by rw [bn_not hz]; exact h.a, h.b, h.r, h.z, h.n0, h.n1, h.l, h.p⟩
theorem Lm.noB {w wr : World} {s : ByteArray} {n g1 g2 rb i j : Nat} (h : Lm w wr s n g1 g2 rb i j) (hz : nz s j = false) : Lm w wr s n g1 g2 rb i (j + 1) :=
  ⟨h.a, by rw [bn_not hz]; exact h.b, h.r, h.z, h.n0, h.n1, h.l, h.p⟩
theorem Lm.drew {w wr : World} {s : ByteArray} {n g1 g2 rb i j : Nat} (h : Lm w wr s n g1 g2 rb i j) : Lm w wr.drew s n g1 g2 rb i j :=
  ⟨h.a.drew, h.b.drew, h.r.drew, h.z.drew, h.n0, h.n1, h.l, h.p.drew⟩
abbrev mdo (m : Nat) : Obj := .cells (madeCells #[.int .u64 0] m) 83
theorem md_new (w : World) (m : Nat) : (w.alloc (mdo m)).rowIs w.heap.size 83 m (wf 0) := (World.rowIs_made w (.int .u64 0) m 83).congr fun k _ => by simp [wf, wd_zero]
theorem md_0 (W : World) (m : Nat) (p q : Obj) : (((W.alloc (mdo m)).alloc p).alloc q).drew.rowIs W.heap.size 83 m (wf 0) := ((md_new W m).alloc _).alloc _
theorem md_1 (W : World) (m : Nat) (p q : Obj) : (((W.alloc p).alloc (mdo m)).alloc q).drew.rowIs (W.heap.size + 1) 83 m (wf 0) := by
  have h := md_new (W.alloc p) m
  rw [show (W.alloc p).heap.size = W.heap.size + 1 by simp] at h
  exact h.alloc _
theorem md_2 (W : World) (m : Nat) (p q : Obj) : (((W.alloc p).alloc q).alloc (mdo m)).drew.rowIs (W.heap.size + 1 + 1) 83 m (wf 0) := by
  have h := md_new ((W.alloc p).alloc q) m
  rw [show ((W.alloc p).alloc q).heap.size = W.heap.size + 1 + 1 by simp] at h
  exact h
theorem bx_0 (W : World) (A B : Bt) (p q : Obj) : (((W.alloc (bxo (A, B))).alloc p).alloc q).drew.rowIs W.heap.size 28 4 (qf A B) := ((q_new W A B _).alloc _).alloc _
theorem bx_1 (W : World) (A B : Bt) (p q : Obj) : (((W.alloc p).alloc (bxo (A, B))).alloc q).drew.rowIs (W.heap.size + 1) 28 4 (qf A B) := by
  have h := q_new (W.alloc p) A B 28
  rw [show (W.alloc p).heap.size = W.heap.size + 1 by simp] at h
  exact h.alloc _
theorem bx_2 (W : World) (A B : Bt) (p q : Obj) : (((W.alloc p).alloc q).alloc (bxo (A, B))).drew.rowIs (W.heap.size + 1 + 1) 28 4 (qf A B) := by
  have h := q_new ((W.alloc p).alloc q) A B 28
  rw [show ((W.alloc p).alloc q).heap.size = W.heap.size + 1 + 1 by simp] at h
  exact h
theorem lm_new {w W X : World} {s : ByteArray} {n g1 g2 rb : Nat} (zW : W.heap.size = w.heap.size + 1) (BW : Below w.heap.size w W) (rW : W.rowIs w.heap.size 28 4 (qf ⟨0, none, 0, 0, 0⟩ ⟨0, none, 0, 0, 0⟩)) (hX : Below W.heap.size W X) (hn : g1 ≠ g2) (hl : W.heap.size ≤ g1 ∧ W.heap.size ≤ g2 ∧ W.heap.size ≤ rb)
    (ha : X.rowIs g1 83 (nw n) (wf 0)) (hb : X.rowIs g2 83 (nw n) (wf 0)) (hr : X.rowIs rb 28 4 (qf (lnS s n g1) (lnM s n g2))) : Lm w X s n g1 g2 rb 0 0 :=
  ⟨ha, hb, hr, keepr hX rW, hn, by omega, ⟨by omega, by omega⟩, bl_step BW hX⟩
set_option maxHeartbeats 1600000 in
set_option maxRecDepth 100000 in
theorem line_own (s : ByteArray) (n : Nat) (hn : s.size = n) (h1 : n ≤ 16777216) (w : World) :
    Calls Try.prog 27 #[.string s] w fun e w' => ∃ g1 g2, e = .returned (rwv (lnS s n g1) (lnM s n g2)) ∧ w'.rowIs g1 83 (nw n) (wf (bn (pl s) n)) ∧ w'.rowIs g2 83 (nw n) (wf (bn (nz s) n)) ∧ Below w.heap.size w w' := by
  obtain ⟨i0, hi, hz0, hz1, hz2⟩ := info_parts info_u64
  have hb := nw_bd h1
  have en : ((n : Int) + 63) / 64 = (nw n : Nat) := by unfold nw; omega
  have hmk := run_make_row (P := Try.prog) 24 83 i0 (.int .u64 0) und_u64s hi hz0 hz1 rfl .i64 .i64 (nw n) (by rw [hz2]; omega) (by omega)
  have HN := hid1 hn
  go_enter Try.func27, Try.ntmps27
  go_upto_region 2 with fail
  refine gen_anyg (fun X => X.heap.size = w.heap.size + 1 ∧ Below w.heap.size w X ∧ X.rowIs w.heap.size 28 4 (qf ⟨0, none, 0, 0, 0⟩ ⟨0, none, 0, 0, 0⟩)) ⟨by simp, bl_alloc (Below.refl _ _) _, q_new w ⟨0, none, 0, 0, 0⟩ ⟨0, none, 0, 0, 0⟩ _⟩ ?_
  rintro W ⟨zW, BW, rW⟩
  have ZW := hid1 zW
  have BWh := hid1 BW
  have RW := hid1 rW
  clear zW BW rW
  go_cut [4] (fun s4 wx => ∃ g1 g2 rb, s4 = .pointer (some ⟨rb, 0, none⟩) ∧ Lm w wx s n g1 g2 rb 0 0)
  case first =>
    go_region
    all_goals
      refine meet_of (by assumption) ?_
      go_meet
      first
        | exact ⟨W.heap.size, W.heap.size + 1, W.heap.size + 1 + 1, (by with_reducible rfl), lm_new ZW.out BWh.out RW.out (bl_alloc (bl_alloc (bl_alloc (Below.refl _ _) _) _) _).drew (by omega) (by omega) (by with_reducible exact md_0 W _ _ _) (by with_reducible exact md_1 W _ _ _) (by with_reducible exact bx_2 W (lnS s n _) (lnM s n _) _ _)⟩
        | exact ⟨W.heap.size, W.heap.size + 1 + 1, W.heap.size + 1, (by with_reducible rfl), lm_new ZW.out BWh.out RW.out (bl_alloc (bl_alloc (bl_alloc (Below.refl _ _) _) _) _).drew (by omega) (by omega) (by with_reducible exact md_0 W _ _ _) (by with_reducible exact md_2 W _ _ _) (by with_reducible exact bx_1 W (lnS s n _) (lnM s n _) _ _)⟩
        | exact ⟨W.heap.size + 1, W.heap.size, W.heap.size + 1 + 1, (by with_reducible rfl), lm_new ZW.out BWh.out RW.out (bl_alloc (bl_alloc (bl_alloc (Below.refl _ _) _) _) _).drew (by omega) (by omega) (by with_reducible exact md_1 W _ _ _) (by with_reducible exact md_0 W _ _ _) (by with_reducible exact bx_2 W (lnS s n _) (lnM s n _) _ _)⟩
        | exact ⟨W.heap.size + 1, W.heap.size + 1 + 1, W.heap.size, (by with_reducible rfl), lm_new ZW.out BWh.out RW.out (bl_alloc (bl_alloc (bl_alloc (Below.refl _ _) _) _) _).drew (by omega) (by omega) (by with_reducible exact md_1 W _ _ _) (by with_reducible exact md_2 W _ _ _) (by with_reducible exact bx_0 W (lnS s n _) (lnM s n _) _ _)⟩
        | exact ⟨W.heap.size + 1 + 1, W.heap.size, W.heap.size + 1, (by with_reducible rfl), lm_new ZW.out BWh.out RW.out (bl_alloc (bl_alloc (bl_alloc (Below.refl _ _) _) _) _).drew (by omega) (by omega) (by with_reducible exact md_2 W _ _ _) (by with_reducible exact md_0 W _ _ _) (by with_reducible exact bx_1 W (lnS s n _) (lnM s n _) _ _)⟩
        | exact ⟨W.heap.size + 1 + 1, W.heap.size + 1, W.heap.size, (by with_reducible rfl), lm_new ZW.out BWh.out RW.out (bl_alloc (bl_alloc (bl_alloc (Below.refl _ _) _) _) _).drew (by omega) (by omega) (by with_reducible exact md_2 W _ _ _) (by with_reducible exact md_1 W _ _ _) (by with_reducible exact bx_0 W (lnS s n _) (lnM s n _) _ _)⟩
  case rest =>
    obtain ⟨g1, g2, rb, rfl, hm⟩ := hcut
    have HM := hid1 hm
    clear hm
    go_wp2_with fail
    go_loopw [5] (fun x wr => ∃ i : Nat, i ≤ n ∧ x = .int .i64 i ∧ Lm w wr s n g1 g2 rb i i) (fun x _ => n - (intOf x).toNat)
    case atStart => exact ⟨0, Nat.zero_le _, rfl, HM.out⟩
    case round =>
      clear HM
      obtain ⟨i, hi', rfl, hm⟩ := hrel
      have HM := hid1 hm
      by_cases hlt : i < n
      · have his : i < s.size := by rw [HN.out]; exact hlt
        have hch := ch_at his
        have hc255 : ch s i < 256 := by rw [← hch]; exact UInt8.toNat_lt _
        obtain ⟨q, hq⟩ : ∃ q : Nat, i / 64 = q := ⟨_, rfl⟩
        obtain ⟨r, hr⟩ : ∃ r : Nat, i % 64 = r := ⟨_, rfl⟩
        have eq : (i : Int) / 64 = (q : Int) := by omega
        have er : (i : Int) % 64 = (r : Int) := by omega
        have er' : (i : Int).tmod 64 = (r : Int) := by rw [Int.tmod_eq_emod_of_nonneg (by omega)]; exact er
        have eq' : (i : Int).tdiv 64 = (q : Int) := by rw [Int.tdiv_eq_ediv_of_nonneg (by omega)]; exact eq
        have q1 : q < nw n := by unfold nw; omega
        have iq0 : (0 : Int) ≤ (q : Int) := by omega
        have iq1 : (q : Int) < (nw n : Nat) := by omega
        have ir0 : (0 : Int) ≤ (r : Int) := by omega
        have ir1 : (r : Int) ≤ 63 := by omega
        have wq : IntKind.i64.wrap (q : Int) = q := by rw [IntKind.wrap_i64]; omega
        have ii0 : (0 : Int) ≤ (i : Int) := by omega
        have ii1 : (i : Int) < 16777216 := by omega
        have iin : (i : Int) < (n : Int) := by omega
        have H1 : Hid (bits .or .u64 (wd (bn (pl s) i) q : Int) (IntKind.u64.wrap (2 ^ r)) = ((wd (bn (pl s) i) q ||| 2 ^ r : Nat) : Int)) := or_bit (wd_lt _ _) (by omega)
        have H2 : Hid (bits .or .u64 (wd (bn (nz s) i) q : Int) (IntKind.u64.wrap (2 ^ r)) = ((wd (bn (nz s) i) q ||| 2 ^ r : Nat) : Int)) := or_bit (wd_lt _ _) (by omega)
        have HQ := hid1 hq
        have HRr := hid1 hr
        have cA := hm.a.cell q1
        have cB := hm.b.cell q1
        have fA := hm.a.frozen q
        have fB := hm.b.frozen q
        have x1 : wr.cell? ⟨rb, 1, none⟩ = some (.slice (some ⟨g1, 0, none⟩) (nw n) (nw n)) := Go.Proofs.Ytakoicolffkbmaa.q1 hm.r
        have x3 : wr.cell? ⟨rb, 3, none⟩ = some (.slice (some ⟨g2, 0, none⟩) (nw n) (nw n)) := Go.Proofs.Ytakoicolffkbmaa.q3 hm.r
        unfold wf at cA cB
        clear hm hq hr
        by_cases h48 : ch s i = 48
        · have e1 := HM.out.noA (show pl s i = false by simp [pl, h48])
          have e2 := hid1 (e1.noB (show nz s i = false by simp [nz, h48]))
          clear e1
          rw [h48] at hch
          have hch' : ((s[i]'his).toNat : Int) = 48 := by omega
          go_wp2_with fail
          exact ⟨⟨i + 1, by omega, by go_num, e2.out⟩, by simp [intOf]; omega⟩
        · have hnz : nz s i = true := by simp [nz, h48]
          have HB2 := hid1 (HM.out.setB hnz HQ.out HRr.out)
          rw [← H2.out] at HB2
          have neq1 : (((s[i]'his).toNat : Int) == 48) = false := by simp; omega
          by_cases h43 : ch s i = 43
          · have hpl : pl s i = true := by simp [pl, h43]
            have hch' : ((s[i]'his).toNat : Int) = 43 := by omega
            clear h48 neq1 hch
            go_wp2_with fail
            refine still_tail 15 (by decide +kernel) ?_
            simp only [List.take_succ_cons, List.take_zero, List.drop_succ_cons, List.drop_zero]
            repeat still_step
            refine wpStill_nil ?_
            go_wp2_with fail
            refine gen_anyg (fun X => Lm w X s n g1 g2 rb i (i + 1)) HB2.out.drew ?_
            intro Y hY
            clear HB2 HM cA cB fA fB x1 x3
            have HA2 := hid1 (hY.setA hpl HQ.out HRr.out)
            rw [← H1.out] at HA2
            have cA := hY.a.cell q1
            have fA := hY.a.frozen q
            have x1 : Y.cell? ⟨rb, 1, none⟩ = some (.slice (some ⟨g1, 0, none⟩) (nw n) (nw n)) := Go.Proofs.Ytakoicolffkbmaa.q1 hY.r
            unfold wf at cA
            clear hY
            refine still_tail 15 (by decide +kernel) ?_
            simp only [List.take_succ_cons, List.take_zero, List.drop_succ_cons, List.drop_zero]
            repeat still_step
            refine wpStill_nil ?_
            go_wp2_with fail
            exact ⟨⟨i + 1, by omega, by go_num, HA2.out.drew⟩, by simp [intOf]; omega⟩
          · have hpl : pl s i = false := by simp [pl, h43]
            have HA2 := hid1 (HB2.out.noA hpl)
            obtain ⟨x, hx⟩ : ∃ x : Nat, (s[i]'his).toNat = x := ⟨_, rfl⟩
            have m1 : ((x : Int) != 48) = true := by simp; omega
            have m2 : ((x : Int) == 43) = false := by simp; omega
            clear h48 h43 hch neq1 hc255
            go_wp2_with fail
            refine still_tail 15 (by decide +kernel) ?_
            simp only [List.take_succ_cons, List.take_zero, List.drop_succ_cons, List.drop_zero]
            repeat still_step
            refine wpStill_nil ?_
            go_wp2_with fail
            exact ⟨⟨i + 1, by omega, by go_num, HA2.out.drew⟩, by simp [intOf]; omega⟩
      · have hkN : i = n := by omega
        subst hkN
        have k0 := q0 hm.r
        have k1 := Go.Proofs.Ytakoicolffkbmaa.q1 hm.r
        have k2 := q2 hm.r
        have k3 := q3 hm.r
        have j0 := q0 hm.z
        have j1 := Go.Proofs.Ytakoicolffkbmaa.q1 hm.z
        have j2 := q2 hm.z
        have j3 := q3 hm.z
        have f0 := hm.z.frozen 0
        have f1 := hm.z.frozen 1
        have f2 := hm.z.frozen 2
        have f3 := hm.z.frozen 3
        have hz := hm.z.lt
        have n1 := hm.n1
        clear hm
        go_wp2_with fail
        have hl : Hid ((((((wr.setCell ⟨w.heap.size, 0, none⟩ (.int .i64 i)).setCell ⟨w.heap.size, 1, none⟩ (.slice (some ⟨g1, 0, none⟩) (nw i) (nw i))).setCell ⟨w.heap.size, 2, none⟩ (.int .i64 i)).setCell ⟨w.heap.size, 3, none⟩ (.slice (some ⟨g2, 0, none⟩) (nw i) (nw i)))).rowIs g1 83 (nw i) (wf (bn (pl s) i)) ∧ (((((wr.setCell ⟨w.heap.size, 0, none⟩ (.int .i64 i)).setCell ⟨w.heap.size, 1, none⟩ (.slice (some ⟨g1, 0, none⟩) (nw i) (nw i))).setCell ⟨w.heap.size, 2, none⟩ (.int .i64 i)).setCell ⟨w.heap.size, 3, none⟩ (.slice (some ⟨g2, 0, none⟩) (nw i) (nw i)))).rowIs g2 83 (nw i) (wf (bn (nz s) i))) := by
          have t1 := row_ne HM.out.a HM.out.z (by decide)
          have t2 := row_ne HM.out.b HM.out.z (by decide)
          exact ⟨((((HM.out.a.setOther (a := ⟨w.heap.size, 0, none⟩) t1 _).setOther (a := ⟨w.heap.size, 1, none⟩) t1 _).setOther (a := ⟨w.heap.size, 2, none⟩) t1 _).setOther (a := ⟨w.heap.size, 3, none⟩) t1 _), ((((HM.out.b.setOther (a := ⟨w.heap.size, 0, none⟩) t2 _).setOther (a := ⟨w.heap.size, 1, none⟩) t2 _).setOther (a := ⟨w.heap.size, 2, none⟩) t2 _).setOther (a := ⟨w.heap.size, 3, none⟩) t2 _)⟩
        refine bodyPost_ret (v := rwv (lnS s i g1) (lnM s i g2)) (by simp [results, Try.results27, go_sem, j0, j1, j2, j3]) rfl ⟨g1, g2, rfl, hl.out.1, hl.out.2, ?_⟩
        exact bl_set (bl_set (bl_set (bl_set HM.out.p (Nat.le_refl _) _) (Nat.le_refl _) _) (Nat.le_refl _) _) (Nat.le_refl _) _
theorem line_any (s : ByteArray) (n : Nat) (hn : s.size = n) (h1 : n ≤ 16777216) (w : World) :
    Calls Try.prog 27 #[.string s] w fun e w' => ∃ g1 g2, e = .returned (rwv (lnS s n g1) (lnM s n g2)) ∧ Rw w' (lnS s n g1) ∧ Rw w' (lnM s n g2) ∧ Below w.heap.size w w' := by
  refine (line_own s n hn h1 w).mono ?_
  rintro e w' ⟨g1, g2, rfl, r1, r2, hb⟩
  exact ⟨g1, g2, rfl, Rw.row r1 (bn_lt _ _) h1, Rw.row r2 (bn_lt _ _) h1, hb⟩
end Go.Proofs.Ytakoicolffkbmaa
