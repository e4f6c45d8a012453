/- CHUNKALL: keptThose. -/
import Derived.Test.YtbpglkhgggokcaaDoorCH8
namespace Go.Proofs.YtbpglkhgggokcaaDoor
open Go.RowKit

def ntk (f : Nat → Value) (k : Nat) : Nat → Value := fun p => if p / 2 < k then (if p % 2 = 0 then .int .u32 99 else .slice none 0 0) else f p
/-- keptThose's memory: the chunks are written over up to k, the bytes up to m. -/
structure Kt (w wr : World) (S : Nat → Prop) (hb g c : Nat) (cs : List Ck) (vb ve vl : Value) (le : Nat) (gi ci : Nat → Nat) (fs : Nat → Nat → Value) (k m : Nat) : Prop where
  f : Hf wr S hb vb ve vl (.slice (some ⟨g, 0, none⟩) c c) le gi ci fs
  x : wr.rowIs g 44 (c * 2) (ntk (tsf cs gi ci) k)
  kl : cs.length ≤ le
  cb : ∀ j, j < cs.length → (bd cs j).length + 3 ≤ ci j
  dn : ∀ j, m ≤ j → j < cs.length → fs j = ff (bd cs j)
  bp : BP S w wr
section
variable {w wr w1 : World} {S : Nat → Prop} {hb g c : Nat} {cs : List Ck} {vb vl ve : Value} {k m le : Nat} {gi ci : Nat → Nat} {fs : Nat → Nat → Value}
theorem Kt.start {w0 : World} (h : Tz w0 w S hb g c cs vb ve vl le gi ci fs) : Kt w w S hb g c cs vb ve vl le gi ci fs 0 0 :=
  ⟨h.f, h.x.congr fun j _ => by simp [ntk], h.kl, fun j hj => (h.dn j hj).2, fun j _ hj => (h.dn j hj).1, BP.refl _ _⟩
theorem Kt.below (h : Kt w wr S hb g c cs vb ve vl le gi ci fs k m) (hu : Below wr.heap.size wr w1) : Kt w w1 S hb g c cs vb ve vl le gi ci fs k m :=
  ⟨h.f.below hu, keepr hu h.x, h.kl, h.cb, h.dn, h.bp.step hu⟩
theorem Kt.fill {F : Nat → Value} (h : Kt w wr S hb g c cs vb ve vl le gi ci fs k k) (hk : k < cs.length) (hu : BP (· = gi k) wr w1) (hr : w1.rowIs (gi k) 5 (ci k) F) : Kt w w1 S hb g c cs vb ve vl le gi ci (upd fs k F) k (k + 1) := by
  have hkl : k < le := Nat.lt_of_lt_of_le hk h.kl
  have rk := h.f.q.d.row k hkl
  refine ⟨⟨h.f.q.onE hkl hu hr, h.f.l.bp hu fun g' e e2 => h.f.l.ne rk (by decide) (e.trans (by rw [e2])), h.f.c.bp hu fun g' e e2 => h.f.c.ne rk (by decide) (e.trans (by rw [e2])), h.f.nl, h.f.sl, h.f.sc⟩, hu.row (row_ne h.x rk (by decide)) h.x, h.kl, h.cb, fun j hj hjL => ?_, h.bp.trans hu fun x _ e => by rw [e]; exact h.f.q.s.2.2.2 k hkl⟩
  rw [upd_other _ _ _ (by omega)]
  exact h.dn j (by omega) hjL
theorem Kt.null (h : Kt w wr S hb g c cs vb ve vl le gi ci fs k m) : Kt w ((wr.setCell ⟨g, k * 2, none⟩ (.int .u32 99)).setCell ⟨g, k * 2 + 1, none⟩ (.slice none 0 0)) S hb g c cs vb ve vl le gi ci fs (k + 1) m := by
  have hn := h.f.q.d.val.ne h.x (by decide)
  have r1 := h.x.set (k * 2) (.int .u32 99)
  refine ⟨⟨(h.f.q.setX h.x (by decide) (by decide) hn _).setX r1 (by decide) (by decide) hn _, (h.f.l.set _ _ _).set _ _ _, (h.f.c.set _ _ _).set _ _ _, h.f.nl, h.f.sl, h.f.sc⟩, (r1.set (k * 2 + 1) _).congr fun p hp => ?_, h.kl, h.cb, h.dn, (h.bp.set (.inl (h.f.sc g rfl)) _).set (.inl (h.f.sc g rfl)) _⟩
  unfold ntk
  by_cases h1 : p = k * 2 + 1
  · rw [if_pos h1]; subst h1
    rw [if_pos (by omega), if_neg (by omega)]
  · rw [if_neg h1]
    by_cases h2 : p = k * 2
    · rw [if_pos h2]; subst h2
      rw [if_pos (by omega), if_pos (by omega)]
    · rw [if_neg h2]
      by_cases h3 : p / 2 < k
      · simp only [if_pos h3, if_pos (show p / 2 < k + 1 by omega)]
      · rw [if_neg h3, if_neg (by omega)]
theorem Kt.more (h : Kt w wr S hb g c cs vb ve vl le gi ci fs k m) {m' : Nat} (hm : m ≤ m') : Kt w wr S hb g c cs vb ve vl le gi ci fs k m' :=
  ⟨h.f, h.x, h.kl, h.cb, fun j h1 h2 => h.dn j (by omega) h2, h.bp⟩
end
set_option maxHeartbeats 3200000 in
set_option maxRecDepth 100000 in
theorem keptThose_any (S : Nat → Prop) (hb g c : Nat) (vb ve vl : Value) (le : Nat) (gi ci : Nat → Nat) (fs : Nat → Nat → Value) (la : Option Addr) (cl : Nat) (cs : List Ck) (w0 w : World) (hJ : cs.length + 1 ≤ c) (hc : c ≤ maxLen) (hz : Tz w0 w S hb g c cs vb ve vl le gi ci fs) (hl : CsO w S la cs) :
    Calls Tryd.prog 15 #[.pointer (some ⟨hb, 0, none⟩), .slice la cs.length cl] w fun e w' => e = .returned (.bool true) ∧ (∃ fs', Hf w' S hb vb ve vl (.slice (some ⟨g, 0, none⟩) c c) le gi ci fs') ∧ BP S w w' := by
  have HST := hid1 (Kt.start hz)
  have HL := hid1 hl
  obtain ⟨J, eJ⟩ : ∃ J, cs.length = J := ⟨_, rfl⟩
  have EJ := hid1 eJ
  rw [eJ] at hJ ⊢
  unfold maxLen at hc
  have iJ0 : (0 : Int) ≤ (J : Int) := by omega
  have ic0 : (0 : Int) ≤ (c : Int) := by omega
  have ic1 : (c : Int) ≤ 9223372036854775807 := by omega
  clear hz hl eJ
  go_enter Tryd.func15, Tryd.ntmps15
  go_wp2_with fail
  go_loopw [5, 6] (fun ok i wr => ∃ k fs, k ≤ c ∧ i = .int .i64 (k : Nat) ∧ ok = .bool true ∧ Kt w wr S hb g c cs vb ve vl le gi ci fs k k) (fun _ i _ => c - (intOf i).toNat)
  case atStart => exact ⟨0, fs, Nat.zero_le _, rfl, rfl, HST.out⟩
  case round =>
    clear HST
    obtain ⟨k, fs, hk, rfl, rfl, hkl⟩ := hrel
    have ik0 : (0 : Int) ≤ (k : Int) := by omega
    have ch3 : wr.cell? ⟨hb, 3, none⟩ = some (.slice (some ⟨g, 0, none⟩) c c) := hkl.f.q.h.cell (by omega)
    by_cases hlt : k < c
    · have ik : (k : Int) < (c : Int) := by omega
      have cx0 := hkl.x.cell (i := k * 2) (by omega)
      have cx1 := hkl.x.cell (i := k * 2 + 1) (by omega)
      have d1 : (k * 2 + 1) / 2 = k := by omega
      have d0 : k * 2 / 2 = k := by omega
      by_cases hkJ : k < J
      · have ikJ : (k : Int) < (J : Int) := by omega
        have hkL : k < cs.length := by rw [EJ.out]; exact hkJ
        rw [show ntk (tsf cs gi ci) k (k * 2) = .int .u32 ((cs.getD k (0, [])).1 : Nat) by unfold ntk tsf; rw [d0, if_neg (by omega), if_pos hkL, if_pos (by omega)]] at cx0
        rw [show ntk (tsf cs gi ci) k (k * 2 + 1) = .slice (some ⟨gi k, 0, none⟩) (bd cs k).length (ci k) by unfold ntk tsf; rw [d1, if_neg (by omega), if_pos hkL, if_neg (by omega)]] at cx1
        obtain ⟨gl, ol, ao, cp, rfl, ct, ck, yk, _, _, sk⟩ := (HL.out.bp hkl.bp fun _ h => h) k _ (getC_at hkL)
        obtain ⟨ln, eln⟩ : ∃ n, (bd cs k).length = n := ⟨_, rfl⟩
        obtain ⟨tg, etg⟩ : ∃ n, (cs.getD k (0, [])).1 = n := ⟨_, rfl⟩
        rw [show (cs.getD k (0, [])).2.length = ln from eln] at ck
        rw [eln] at cx1
        rw [etg] at ct cx0
        have ELN := hid1 eln
        have HKL := hid1 hkl
        have HYK := hid1 yk
        have HSK := hid1 sk
        have zg := lt_of_cell ck
        clear hkl yk sk eln etg d0 d1
        go_upto_region 8 with fail
        go_quiet (fail)
        go_upto_region 9 with fail
        refine gen_world (fun X => Below wr.heap.size wr X) (bl_drewN (bl_alloc (Below.refl _ _) _) _) ?_
        intro Y hY
        have hk1 := HKL.out.below hY
        have hkle : k < le := Nat.lt_of_lt_of_le hkL hk1.kl
        obtain ⟨ge, cw, fv, rfl, k1, k2, k3, k4⟩ : ∃ ge cw f, ve = .slice (some ⟨ge, 0, none⟩) le cw ∧ le ≤ cw ∧ cw ≤ maxLen ∧ Y.rowIs ge 25 cw f ∧ ∀ j, j < le → f j = wsf gi ci j := by
          rcases hk1.f.q.d.val with ⟨_, e⟩ | h
          · omega
          · exact h
        have ikle : (k : Int) < (le : Int) := by omega
        have cwq : Y.cell? ⟨ge, k, none⟩ = some (.slice (some ⟨gi k, 0, none⟩) (ci k) (ci k)) := by
          have h := k3.cell (i := k) (by omega)
          rw [k4 k hkle] at h
          exact h
        have x1 : Y.cell? ⟨hb, 1, none⟩ = some (.slice (some ⟨ge, 0, none⟩) le cw) := hk1.f.q.h.cell (by omega)
        replace ck := keepc hY ck
        have AF : Hid (∀ X, Below Y.heap.size Y X → Calls Tryd.prog 17 #[.slice (some ⟨gi k, 0, none⟩) (ci k) (ci k), .slice ao ln cp] X fun e w' => e = .returned (.bool true) ∧ w'.rowIs (gi k) 5 (ci k) (fun _ => .int .u8 99) ∧ BP (· = gi k) X w') := hid1 fun X hX => by
          have hk2 := hk1.below hX
          have h := asFilled_any (gi k) (ci k) ao cp (bd cs k) X (by have := hk2.f.q.d.max k hkle; unfold maxLen at this; omega) (by have := hk2.cb k hkL; omega) (by rw [← hk2.dn k (Nat.le_refl _) hkL]; exact hk2.f.q.d.row k hkle) ((HYK.out.keep hY).keep hX) (fun p hp hl e => HSK.out p hp hl (by rw [e]; exact hk2.f.q.s.2.2.2 k hkle))
          rw [ELN.out] at h
          exact h
        have HK1 := hid1 hk1
        clear hk1 HKL HYK HSK k3 k4 ch3 cx0 cx1 ct zg hY
        refine still_tail 12 (by kernel_rfl) ?_
        simp only [List.take_succ_cons, List.take_zero, List.drop_succ_cons, List.drop_zero]
        repeat still_step
        refine wpStill_nil ?_
        go_upto_region 10 with (go_at_call 17; refine gen_calls (fun X => Below Y.heap.size Y X) (Below.drew (Below.refl _ _)) ?_; intro X hX; refine (AF.out X hX).mono ?_; rintro e w1 ⟨rfl, hrow1, hbut1⟩)
        have hk2 := (HK1.out.below hX).fill hkL hbut1 hrow1
        have ch3 : w1.cell? ⟨hb, 3, none⟩ = some (.slice (some ⟨g, 0, none⟩) c c) := hk2.f.q.h.cell (by omega)
        have fx0 := hk2.x.frozen (k * 2)
        have cx0 := hk2.x.cell (i := k * 2) (by omega)
        have fx1 := hk2.x.frozen (k * 2 + 1)
        have cx1 := hk2.x.cell (i := k * 2 + 1) (by omega)
        have HK2 := hid1 hk2
        clear hk2 HK1 AF x1 cwq ck hbut1 hrow1
        go_wp2_with fail
        exact ⟨⟨k + 1, _, by omega, by go_num, rfl, HK2.out.null⟩, by simp [intOf]; omega⟩
      · have ikJ : (J : Int) ≤ (k : Int) := by omega
        rw [show ntk (tsf cs gi ci) k (k * 2) = .int .u32 205 by unfold ntk tsf; rw [d0, if_neg (by omega), if_neg (by rw [EJ.out]; omega), if_pos (by omega)]] at cx0
        rw [show ntk (tsf cs gi ci) k (k * 2 + 1) = .slice none 0 0 by unfold ntk tsf; rw [d1, if_neg (by omega), if_neg (by rw [EJ.out]; omega), if_neg (by omega)]] at cx1
        have fx0 := hkl.x.frozen (k * 2)
        have fx1 := hkl.x.frozen (k * 2 + 1)
        have zx := hkl.x.lt
        have zh := hkl.f.q.h.lt
        have HKL := hid1 hkl
        clear hkl d0 d1
        go_wp2_with fail
        have hfin := (HKL.out.below (bl_alloc (Below.refl _ _) (.cells #[.int .u32 205, .slice none 0 0] 44))).null.more (Nat.le_succ _)
        rw [World.setCell_alloc_past _ _ _ _ zx, World.setCell_alloc_past _ _ _ _ (by simpa using zx)] at hfin
        exact ⟨⟨k + 1, fs, by omega, by go_num, rfl, hfin⟩, by simp [intOf]; omega⟩
    · have hkc : k = c := by omega
      subst hkc
      have HKL := hid1 hkl
      clear hkl
      go_wp2_with fail
      go_ret
      exact ⟨rfl, ⟨fs, HKL.out.f⟩, HKL.out.bp⟩
end Go.Proofs.YtbpglkhgggokcaaDoor
