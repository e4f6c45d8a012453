/- The law's put. -/
import Derived.Test.YtpjcpikafpnmpaaAC7
import Derived.Deep.CutBlock
namespace Go.Proofs.Ytpjcpikafpnmpaa
open Go.RowKit

theorem cw_putX {w0 w : World} {S : Nat → Prop} {p : Nat} {rm : Int} {bm : Nat} {h m : Int} {L : List Ce} (c : Cw w0 w S p rm bm h m L) (ao : Option Addr) (cap : Nat) (s : ByteArray) (hs : Bs w ao s) (hd : Bo S ao s)
    (ro : Option Addr) (rc : Nat) (l : List Int) (a : Int) (hrc : ro = none → rc = 0) (hr : Nm w ro l) (hM : l.length * 8 ≤ 140737488355328) :
    Calls Try.prog 11 #[.pointer (some ⟨p, 0, none⟩), .slice ao s.size cap, rsv (.slice ro l.length rc) a] w fun e w' => e = .returned (.int .i64 (puV s)) ∧ ∃ S' L', ct L' = puE rm.toNat (ct L) s l a ∧ Cw w0 w' S' p rm bm h m L' ∧ BP S w w' ∧ ∀ k, S' k → S k ∨ w.heap.size ≤ k := by
  by_cases hz : s.size ≤ 65536
  · unfold puV puE
    rw [if_pos hz, if_pos hz]
    exact cw_put c ao cap s hs hd hz ro rc l a hrc hr hM
  · unfold puV puE
    rw [if_neg hz, if_neg hz]
    refine (put_long p w ao s.size cap (.slice ro l.length rc) a (by omega)).mono ?_
    rintro e w' ⟨rfl, b⟩
    exact ⟨rfl, S, L, rfl, c.below b, BP.bel b, fun k hk => .inl hk⟩
/-- Numbers with marks behind them. -/
def ny (l : List Int) (i : Nat) : Int := if h : i < l.length then l[i] else 901 + i
def nyf (l : List Int) : Nat → Value := fun i => .int .i64 (ny l i)
def nyk (l : List Int) (k : Nat) : Nat → Value := fun i => if i < k then nyf l i else .int .i64 0
theorem nyk_step (l : List Int) (k : Nat) : (fun i => if i = k then nyf l k else nyk l k i) = nyk l (k + 1) := by
  funext i
  unfold nyk
  by_cases h : i = k
  · subst h; rw [if_pos rfl, if_pos (by omega)]
  · rw [if_neg h]
    by_cases h2 : i < k
    · rw [if_pos h2, if_pos (by omega)]
    · rw [if_neg h2, if_neg (by omega)]
theorem ny_nm {w : World} {g m : Nat} {l : List Int} (r : w.rowIs g 2 m (nyf l)) (hm : l.length ≤ m) : Nm w (some ⟨g, 0, none⟩) l := fun j x hj => by
  have hl : j < l.length := (List.getElem?_eq_some_iff.1 hj).1
  refine ⟨g, 0, rfl, ?_⟩
  rw [Nat.zero_add, r.cell (show j < m by omega)]
  unfold nyf ny
  rw [dif_pos hl]
  rw [List.getElem?_eq_getElem hl] at hj
  injection hj with hj
  rw [hj]
/-- put under way. -/
structure Pu (w0 w : World) (S0 S : Nat → Prop) (p : Nat) (rm : Int) (bm : Nat) (h m : Int) (L : List Ce) (b5 g1 g2 : Nat) (vr : Value) (a : Int) (n1 n2 : Nat) (f1 f2 : Nat → Value) (X : World) : Prop where
  c : Cw w0 X S p rm bm h m L
  bp : BP S0 w X
  box : X.rowIs b5 31 2 (rf vr a)
  r1 : X.rowIs g1 5 n1 f1
  r2 : X.rowIs g2 2 n2 f2
theorem Pu.below {w0 w : World} {S0 S : Nat → Prop} {p : Nat} {rm : Int} {bm : Nat} {h m : Int} {L : List Ce} {b5 g1 g2 : Nat} {vr : Value} {a : Int} {n1 n2 : Nat} {f1 f2 : Nat → Value} {X Y : World} (u : Pu w0 w S0 S p rm bm h m L b5 g1 g2 vr a n1 n2 f1 f2 X) (hb : Below X.heap.size X Y) : Pu w0 w S0 S p rm bm h m L b5 g1 g2 vr a n1 n2 f1 f2 Y :=
  ⟨u.c.below hb, u.bp.step hb, keepr hb u.box, keepr hb u.r1, keepr hb u.r2⟩
theorem Pu.set1 {w0 w : World} {S0 S : Nat → Prop} {p : Nat} {rm : Int} {bm : Nat} {h m : Int} {L : List Ce} {b5 g1 g2 : Nat} {vr : Value} {a : Int} {n1 n2 : Nat} {f1 f2 : Nat → Value} {X : World} (u : Pu w0 w S0 S p rm bm h m L b5 g1 g2 vr a n1 n2 f1 f2 X) (hw : w0.heap.size ≤ w.heap.size) (hg : w.heap.size ≤ g1) (hs : ¬ S g1) (k : Nat) (v : Value) : Pu w0 w S0 S p rm bm h m L b5 g1 g2 vr a n1 n2 (fun i => if i = k then v else f1 i) f2 (X.setCell ⟨g1, k, none⟩ v) :=
  ⟨u.c.set (Nat.le_trans hw hg) hs k v, u.bp.set (g := g1) (o := k) (.inr hg) v, u.box.setOther (a := ⟨g1, k, none⟩) (row_ne u.box u.r1 (by decide)) v, u.r1.set k v, u.r2.setOther (a := ⟨g1, k, none⟩) (row_ne u.r2 u.r1 (by decide)) v⟩
theorem Pu.set2 {w0 w : World} {S0 S : Nat → Prop} {p : Nat} {rm : Int} {bm : Nat} {h m : Int} {L : List Ce} {b5 g1 g2 : Nat} {vr : Value} {a : Int} {n1 n2 : Nat} {f1 f2 : Nat → Value} {X : World} (u : Pu w0 w S0 S p rm bm h m L b5 g1 g2 vr a n1 n2 f1 f2 X) (hw : w0.heap.size ≤ w.heap.size) (hg : w.heap.size ≤ g2) (hs : ¬ S g2) (k : Nat) (v : Value) : Pu w0 w S0 S p rm bm h m L b5 g1 g2 vr a n1 n2 f1 (fun i => if i = k then v else f2 i) (X.setCell ⟨g2, k, none⟩ v) :=
  ⟨u.c.set (Nat.le_trans hw hg) hs k v, u.bp.set (g := g2) (o := k) (.inr hg) v, u.box.setOther (a := ⟨g2, k, none⟩) (row_ne u.box u.r2 (by decide)) v, u.r1.setOther (a := ⟨g2, k, none⟩) (row_ne u.r1 u.r2 (by decide)) v, u.r2.set k v⟩
theorem Pu.as1 {w0 w : World} {S0 S : Nat → Prop} {p : Nat} {rm : Int} {bm : Nat} {h m : Int} {L : List Ce} {b5 g1 g2 : Nat} {vr : Value} {a : Int} {n1 n2 : Nat} {f1 f2 f : Nat → Value} {X : World} (u : Pu w0 w S0 S p rm bm h m L b5 g1 g2 vr a n1 n2 f1 f2 X) (e : ∀ i, i < n2 → f2 i = f i) : Pu w0 w S0 S p rm bm h m L b5 g1 g2 vr a n1 n2 f1 f X :=
  ⟨u.c, u.bp, u.box, u.r1, u.r2.congr e⟩
set_option maxHeartbeats 6400000 in
set_option maxRecDepth 100000 in
theorem put_law {w0 w : World} {S : Nat → Prop} {p : Nat} {rm : Int} {bm : Nat} {h m : Int} {L : List Ce} (c : Cw w0 w S p rm bm h m L) (ao : Option Addr) (cap : Nat) (s : ByteArray) (hs : Bs w0 ao s) (hz : s.size ≤ 140737488351232)
    (ro : Option Addr) (rc : Nat) (l : List Int) (a : Int) (hr : Nm w0 ro l) (hl : l.length ≤ 17592186043904) :
    Calls Try.prog 19 #[.pointer (some ⟨p, 0, none⟩), .slice ao s.size cap, rsv (.slice ro l.length rc) a] w fun e w' => e = .returned (.tuple #[.int .i64 (puV s), .bool true]) ∧ ∃ S' L', ct L' = puE rm.toNat (ct L) s l a ∧ Cw w0 w' S' p rm bm h m L' ∧ BP S w w' ∧ ∀ k, S' k → S k ∨ w.heap.size ≤ k := by
  obtain ⟨i0, hi, hz0, hz1, hz2⟩ := info_parts info_i64
  obtain ⟨nl, hnl⟩ : ∃ nl, l.length = nl := ⟨_, rfl⟩
  obtain ⟨ns, hns⟩ : ∃ ns, s.size = ns := ⟨_, rfl⟩
  obtain ⟨q, hq⟩ : ∃ q, nl + 66 = q := ⟨_, rfl⟩
  have hqi : (nl : Int) + 66 = (q : Int) := by omega
  have hw := c.bel.size
  have BA : Below w.heap.size w (w.alloc (.cells #[.slice ro nl rc, .int .i64 a] 31)) := bl_alloc (Below.refl _ _) _
  have HC := hid1 (And.intro (c.below BA) (And.intro BA (rf_new w (.slice ro nl rc) a)))
  have HRM := hid1 (roomy_any (w.alloc (.cells #[.slice ro nl rc, .int .i64 a] 31)) ao cap s (hs.below (c.bel.trans (BA.mono hw))) (by omega))
  have HS := hid1 hs
  have HR := hid1 hr
  have HNL := hid1 hnl
  have HNS := hid1 hns
  have HNSP := hid1 (fun k hk => c.ns k hk)
  have HZ := hid1 hz
  rw [hns] at HRM ⊢
  rw [hnl] at hl ⊢
  clear c BA hs hr hnl hns hz
  go_enter Try.func19, Try.ntmps19
  go_upto_region 2 with (go_at_call 38; refine HRM.out.mono ?_; rintro e X1 ⟨g1, rfl, hg1, row1, bl1⟩)
  obtain ⟨c0, ba0, box0⟩ := HC.out
  have c1 := c0.below bl1
  have box1 := keepr bl1 box0
  have bel1 := bl_step ba0 bl1
  have hg1w : w.heap.size ≤ g1 := by rw [World.size_alloc] at hg1; omega
  have hlt1 := row1.lt
  have d0 := box1.cell (i := 0) (by omega)
  dsimp only [rf] at d0
  have al : ∀ o, Below X1.heap.size X1 (X1.alloc o) := fun o => bl_alloc (Below.refl _ _) o
  have HP1 := hid1 (show Pu w0 w S S p rm bm h m L w.heap.size g1 X1.heap.size (.slice ro nl rc) a (ns + 66) q (ryf s) (nyk l 0) (X1.alloc (.cells (madeCells #[.int .i64 0] q) 2)) from
    ⟨c1.below (al _), BP.bel (bl_step bel1 (al _)), keepr (al _) box1, keepr (al _) row1, (World.rowIs_made X1 (.int .i64 0) q 2).congr fun k _ => by simp [nyk]⟩)
  have hg2 := bel1.size
  clear c0 ba0 box0 c1 box1 bel1 row1 bl1 HRM HC hg1
  go_wp2_with (refine wpList_make_row _ rfl _ _ 29 rfl 2 i0 (.int .i64 0) und_i64s hi hz0 hz1 rfl .i64 .i64 q (by go_simp) (by go_simp) (by rw [hz2]; omega) (by omega) ?_; refine gen_list (fun W => Pu w0 w S S p rm bm h m L w.heap.size g1 X1.heap.size (.slice ro nl rc) a (ns + 66) q (ryf s) (nyk l 0) W) HP1.out ?_; rintro X2 u2)
  have H2 := hid1 u2
  have hg2l := HP1.out.r2.lt
  clear u2 HP1 d0 al
  generalize X1.heap.size = g2 at *
  go_loopw [11] (fun vi wr => ∃ i : Nat, i ≤ q ∧ vi = .int .i64 i ∧ Pu w0 w S S p rm bm h m L w.heap.size g1 g2 (.slice ro nl rc) a (ns + 66) q (ryf s) (nyk l i) wr) (fun vi _ => q - (intOf vi).toNat)
  case atStart => exact ⟨0, Nat.zero_le _, rfl, H2.out⟩
  case round =>
    clear H2
    obtain ⟨i, hi', rfl, pu⟩ := hrel
    have hnS2 : ¬ S g2 := fun hs => by have := (HNSP.out _ hs).2; omega
    by_cases hiq : i < q
    · have ii : (i : Int) < (q : Int) := by omega
      have ii0 : (0 : Int) ≤ (i : Int) := by omega
      have cw := pu.r2.cell hiq
      have fw := pu.r2.frozen i
      have d0 := pu.box.cell (i := 0) (by omega)
      dsimp only [rf] at d0
      have hbg : w.heap.size ≠ g2 := row_ne pu.box pu.r2 (by decide)
      have HU := hid1 pu
      by_cases hin : i < nl
      · obtain ⟨x, hx⟩ : ∃ x, l[i]? = some x := ⟨_, List.getElem?_eq_getElem (by rw [HNL.out]; exact hin)⟩
        obtain ⟨g, o, rfl, cx⟩ := HR.out i x hx
        have hgg : g ≠ g2 := by have := lt_of_cell cx; omega
        have cx2 := keepc pu.c.bel cx
        have hin1 : (i : Int) < (nl : Int) := by omega
        have HX := hid1 hx
        clear pu cx hx
        go_wp2_with fail
        refine ⟨⟨i + 1, by omega, by go_num, ((HU.out.set2 hw hg2 hnS2 i _).set2 hw hg2 hnS2 i _).as1 fun j _ => ?_⟩, by simp [intOf]; omega⟩
        rw [← nyk_step l i]
        by_cases hji : j = i
        · subst hji
          simp only [if_true, nyf, ny]
          rw [dif_pos (by rw [HNL.out]; exact hin)]
          have := HX.out
          rw [List.getElem?_eq_getElem (by rw [HNL.out]; exact hin)] at this
          injection this with this
          rw [this]
        · simp [hji]
      · have hin1 : ¬ (i : Int) < (nl : Int) := by omega
        clear pu
        go_wp2_with fail
        refine ⟨⟨i + 1, by omega, by go_num, (HU.out.set2 hw hg2 hnS2 i _).as1 fun j _ => ?_⟩, by simp [intOf]; omega⟩
        rw [← nyk_step l i]
        by_cases hji : j = i
        · subst hji
          simp only [if_true, nyf, ny]
          rw [dif_neg (by rw [HNL.out]; exact hin)]
        · simp [hji]
    · obtain rfl : i = q := by omega
      have pq : Pu w0 w S S p rm bm h m L w.heap.size g1 g2 (.slice ro nl rc) a (ns + 66) i (ryf s) (nyf l) wr := pu.as1 fun j hj => by unfold nyk; rw [if_pos hj]
      have hnS1 : ¬ S g1 := fun hs => by have := (HNSP.out _ hs).2; omega
      have hnS0 : ¬ S w.heap.size := fun hs => by have := (HNSP.out _ hs).2; omega
      have HPU := hid1 (show Calls Try.prog 11 #[.pointer (some ⟨p, 0, none⟩), .slice (some ⟨g1, 0, none⟩) ns (ns + 66), rsv (.slice (some ⟨g2, 0, none⟩) nl i) a] wr.drew (fun e X => e = .returned (.int .i64 (puV s)) ∧ ∃ S' L', ct L' = puE rm.toNat (ct L) s l a ∧ Pu w0 w S S' p rm bm h m L' w.heap.size g1 g2 (.slice ro nl rc) a (ns + 66) i (ryf s) (nyf l) X ∧ (∀ k, S' k → S k ∨ w.heap.size ≤ k) ∧ ¬ S' g1 ∧ ¬ S' g2) from by
        have pd := pq.below (Y := wr.drew) ((Below.refl wr.heap.size wr).drew)
        have := cw_putX pd.c (some ⟨g1, 0, none⟩) (ns + 66) s (ry_bs pd.r1 HNS.out (by omega)) (.inr fun a e hs => hnS1 (by injection e with e; subst e; exact hs)) (some ⟨g2, 0, none⟩) i l a (fun e => by cases e) (ny_nm pd.r2 (by rw [HNL.out]; omega)) (by rw [HNL.out]; omega)
        rw [HNS.out, HNL.out] at this
        refine this.mono ?_
        rintro e X ⟨rfl, S', L', hc, c', b, hn⟩
        have hsz := pd.bp.size
        refine ⟨rfl, S', L', hc, ⟨c', pd.bp.trans b fun _ _ h => h, b.row hnS0 pd.box, b.row hnS1 pd.r1, b.row hnS2 pd.r2⟩, fun k hk => ?_, fun hs => ?_, fun hs => ?_⟩
        · rcases hn k hk with h | h
          · exact .inl h
          · exact .inr (by omega)
        · rcases hn _ hs with h | h
          · exact hnS1 h
          · have := pd.r1.lt; omega
        · rcases hn _ hs with h | h
          · exact hnS2 h
          · have := pd.r2.lt; omega)
      have d0 := (pq.below (Y := wr.drew) ((Below.refl wr.heap.size wr).drew)).box.cell (i := 0) (by omega)
      have d1 := (pq.below (Y := wr.drew) ((Below.refl wr.heap.size wr).drew)).box.cell (i := 1) (by omega)
      dsimp only [rf] at d0 d1
      have hn0 : (0 : Int) ≤ (nl : Int) := by omega
      have hnq : (nl : Int) ≤ (i : Int) := by omega
      clear pu pq
      go_upto_region 10 with fail
      refine still_tail 8 (by kernel_rfl) ?_
      simp only [List.take_succ_cons, List.take_zero, List.drop_succ_cons, List.drop_zero]
      repeat still_step
      refine wpStill_nil ?_
      go_upto_region 11 with (go_at_call 11; refine HPU.out.mono ?_; rintro e X3 ⟨rfl, S', L', hct, pu3, hsub, hm1, hm2⟩)
      have hk0 := pu3.box.cell (i := 0) (by omega)
      have hqt : ∀ n, Qt X3 (X3.drewN n) := fun n => ⟨n, rfl⟩
      have HKP := hid1 (fun n => kept_any (X3.drewN n) g1 ns cap ao s HNS.out ((HS.out.below pu3.c.bel).qt (hqt n)) (row_drewN pu3.r1 n) (by have := HNS.out; have := HZ.out; omega))
      have HNB := hid1 (fun n => numbers_any (some ⟨g2, 0, none⟩) ro l l i rc (X3.drewN n) (by have := HNL.out; omega) ((ny_nm pu3.r2 (by rw [HNL.out]; omega)).below ((hqt n).below (Below.refl _ _))) ((HR.out.below pu3.c.bel).below ((hqt n).below (Below.refl _ _))))
      rw [HNL.out, decide_eq_true rfl] at HNB
      have HP3 := hid1 pu3
      have HCT := hid1 (And.intro hct hsub)
      dsimp only [rf] at hk0
      clear pu3 hqt hct hsub HPU
      go_quiet (first | (go_at_call 39; exact Calls.quiet_of (HKP.out _)) | (go_at_call 36; exact Calls.quiet_of (HNB.out _)))
      have hqq := hid1 (HP3.out.below ((show Qt X3 (X3.drewN nq) from ⟨nq, rfl⟩).below (Below.refl _ _)))
      clear HP3 HKP HNB
      generalize X3.drewN nq = Z at *
      go_wp2_with fail
      go_loopw [13, 14] (fun vb vj wr => ∃ j : Nat, nl ≤ j ∧ j ≤ i ∧ vj = .int .i64 j ∧ vb = .bool true ∧ wr = Z) (fun _ vj _ => i - (intOf vj).toNat)
      case atStart => exact ⟨nl, Nat.le_refl _, by omega, rfl, rfl, rfl⟩
      case round =>
        obtain ⟨j, hnj, hj, rfl, rfl, rfl⟩ := hrel
        by_cases hji : j < i
        · have ij : (j : Int) < (i : Int) := by omega
          have ij0 : (0 : Int) ≤ (j : Int) := by omega
          have cw := hqq.out.r2.cell hji
          have ev : nyf l j = .int .i64 (901 + j) := by
            unfold nyf ny
            rw [dif_neg (by rw [HNL.out]; omega)]
          rw [ev] at cw
          clear ev
          go_wp2_with fail
          exact ⟨⟨j + 1, by omega, by omega, by go_num, rfl, trivial⟩, by simp [intOf]; omega⟩
        · obtain rfl : j = i := by omega
          have hnsz : ns ≤ 140737488351232 := by have := HNS.out; have := HZ.out; omega
          go_wp2_with fail
          go_loopw [15] (fun vk wr => ∃ (k : Nat) (f1 : Nat → Value), k ≤ ns ∧ vk = .int .i64 k ∧ Pu w0 w S S' p rm bm h m L' w.heap.size g1 g2 (.slice ro nl rc) a (ns + 66) j f1 (nyf l) wr) (fun vk _ => ns - (intOf vk).toNat)
          case atStart => exact ⟨0, _, Nat.zero_le _, rfl, hqq.out⟩
          case round =>
            clear hqq
            obtain ⟨k, f1, hk, rfl, pu⟩ := hrel
            by_cases hkn : k < ns
            · have ik : (k : Int) < (ns : Int) := by omega
              have ik0 : (0 : Int) ≤ (k : Int) := by omega
              have cw := pu.r1.cell (i := k) (by omega)
              have fw := pu.r1.frozen k
              have HU := hid1 pu
              clear pu
              go_wp2_with fail
              exact ⟨⟨k + 1, _, by omega, by go_num, HU.out.set1 hw hg1w hm1 k _⟩, by simp [intOf]; omega⟩
            · obtain rfl : k = ns := by omega
              have HU := hid1 pu
              clear pu
              go_wp2_with fail
              go_loopw [16] (fun vt wr => ∃ (t : Nat) (f2 : Nat → Value), t ≤ j ∧ vt = .int .i64 t ∧ Pu w0 w S S' p rm bm h m L' w.heap.size g1 g2 (.slice ro nl rc) a (k + 66) j f1 f2 wr) (fun vt _ => j - (intOf vt).toNat)
              case atStart => exact ⟨0, _, Nat.zero_le _, rfl, HU.out⟩
              case round =>
                clear HU
                obtain ⟨t, f2, ht, rfl, pu⟩ := hrel
                by_cases htj : t < j
                · have it : (t : Int) < (j : Int) := by omega
                  have it0 : (0 : Int) ≤ (t : Int) := by omega
                  have cw := pu.r2.cell htj
                  have fw := pu.r2.frozen t
                  have HU := hid1 pu
                  clear pu
                  go_wp2_with fail
                  exact ⟨⟨t + 1, _, by omega, by go_num, HU.out.set2 hw hg2 hm2 t _⟩, by simp [intOf]; omega⟩
                · obtain rfl : t = j := by omega
                  have HU := hid1 pu
                  clear pu
                  go_wp2_with fail
                  go_ret2
                  exact ⟨rfl, S', L', HCT.out.1, HU.out.c, HU.out.bp, HCT.out.2⟩
end Go.Proofs.Ytpjcpikafpnmpaa
