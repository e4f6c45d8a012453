/- CHUNKALL: keptList. -/
import Derived.Test.YtbpglkhgggokcaaDoorCH6
namespace Go.Proofs.YtbpglkhgggokcaaDoor
open Go.RowKit

def nlk (f : Nat → Value) (k : Nat) : Nat → Value := fun j => if j < k then .slice none 0 0 else f j
/-- keptList's memory: the lists are nothing up to k, the bytes written over up to m. -/
structure Kl (w wr : World) (S : Nat → Prop) (hb g c : Nat) (L : List (List Nat)) (vb ve vc : Value) (le : Nat) (gi ci pt : Nat → Nat) (fs : Nat → Nat → Value) (k m : Nat) : Prop where
  f : Hf wr S hb vb ve (.slice (some ⟨g, 0, none⟩) c c) vc le gi ci fs
  x : wr.rowIs g 25 c (nlk (lsf L gi ci pt) k)
  kl : L.length ≤ le
  cb : ∀ j, j < L.length → (L.getD j []).length + 3 ≤ ci j
  dn : ∀ j, m ≤ j → j < L.length → fs j = ff (L.getD j [])
  pt : ∀ j, k ≤ j → j < c → L.length ≤ j → wr.rowIs (pt j) 5 1 (fun _ => .int .u8 204)
  bp : BP S w wr
section
variable {w wr w1 : World} {S : Nat → Prop} {hb g c : Nat} {L : List (List Nat)} {vb vc ve : Value} {k m le : Nat} {gi ci pt : Nat → Nat} {fs : Nat → Nat → Value}
theorem Kl.start {w0 : World} (h : Lz w0 w S hb g c L vb ve vc le gi ci pt fs) : Kl w w S hb g c L vb ve vc le gi ci pt fs 0 0 :=
  ⟨h.f, h.x.congr fun j _ => by simp [nlk], h.kl, fun j hj => (h.dn j hj).2, fun j _ hj => (h.dn j hj).1, fun j _ hj hL => h.pt j hj hL, BP.refl _ _⟩
theorem Kl.below (h : Kl w wr S hb g c L vb ve vc le gi ci pt fs k m) (hu : Below wr.heap.size wr w1) : Kl w w1 S hb g c L vb ve vc le gi ci pt fs k m :=
  ⟨h.f.below hu, keepr hu h.x, h.kl, h.cb, h.dn, fun j h1 h2 h3 => keepr hu (h.pt j h1 h2 h3), h.bp.step hu⟩
theorem Kl.fill {F : Nat → Value} (h : Kl w wr S hb g c L vb ve vc le gi ci pt fs k k) (hk : k < L.length) (hu : BP (· = gi k) wr w1) (hr : w1.rowIs (gi k) 5 (ci k) F) : Kl w w1 S hb g c L vb ve vc le gi ci pt (upd fs k F) k (k + 1) := by
  have hkl : k < le := Nat.lt_of_lt_of_le hk h.kl
  have rk := h.f.q.d.row k hkl
  refine ⟨⟨h.f.q.onE hkl hu hr, h.f.l.bp hu fun g' e e2 => h.f.l.ne rk (by decide) (e.trans (by rw [e2])), h.f.c.bp hu fun g' e e2 => h.f.c.ne rk (by decide) (e.trans (by rw [e2])), h.f.nl, h.f.sl, h.f.sc⟩, hu.row (row_ne h.x rk (by decide)) h.x, h.kl, h.cb, fun j hj hjL => ?_, fun j h1 h2 h3 => hu.row (row_sz (h.pt j h1 h2 h3) rk (by have := h.cb k hk; omega)) (h.pt j h1 h2 h3), h.bp.trans hu fun x _ e => by rw [e]; exact h.f.q.s.2.2.2 k hkl⟩
  rw [upd_other _ _ _ (by omega)]
  exact h.dn j (by omega) hjL
theorem Kl.null (h : Kl w wr S hb g c L vb ve vc le gi ci pt fs k m) : Kl w (wr.setCell ⟨g, k, none⟩ (.slice none 0 0)) S hb g c L vb ve vc le gi ci pt fs (k + 1) m := by
  refine ⟨⟨h.f.q.setX h.x (by decide) (by decide) (h.f.nl g rfl) _, h.f.l.set _ _ _, h.f.c.set _ _ _, h.f.nl, h.f.sl, h.f.sc⟩, (h.x.set k _).congr fun j hj => ?_, h.kl, h.cb, h.dn, fun j h1 h2 h3 => (h.pt j (by omega) h2 h3).setOther (a := ⟨g, k, none⟩) (row_ne (h.pt j (by omega) h2 h3) h.x (by decide)) _, h.bp.set (.inl (h.f.sl g rfl)) _⟩
  unfold nlk
  by_cases e : j = k
  · subst e; rw [if_pos rfl, if_pos (by omega)]
  · rw [if_neg e]
    by_cases h3 : j < k
    · rw [if_pos h3, if_pos (by omega)]
    · rw [if_neg h3, if_neg (by omega)]
theorem Kl.more (h : Kl w wr S hb g c L vb ve vc le gi ci pt fs k m) {m' : Nat} (hm : m ≤ m') : Kl w wr S hb g c L vb ve vc le gi ci pt fs k m' :=
  ⟨h.f, h.x, h.kl, h.cb, fun j h1 h2 => h.dn j (by omega) h2, h.pt, h.bp⟩
end
set_option maxHeartbeats 3200000 in
set_option maxRecDepth 100000 in
theorem keptList_any (S : Nat → Prop) (hb g c : Nat) (vb ve vc : Value) (le : Nat) (gi ci pt : Nat → Nat) (fs : Nat → Nat → Value) (la : Option Addr) (cl : Nat) (L : List (List Nat)) (w0 w : World) (hJ : L.length + 1 ≤ c) (hc : c ≤ maxLen) (hz : Lz w0 w S hb g c L vb ve vc le gi ci pt fs) (hl : BysO w S la L) :
    Calls Tryd.prog 13 #[.pointer (some ⟨hb, 0, none⟩), .slice la L.length cl] w fun e w' => e = .returned (.bool true) ∧ (∃ fs', Hf w' S hb vb ve (.slice (some ⟨g, 0, none⟩) c c) vc le gi ci fs') ∧ BP S w w' := by
  have HST := hid1 (Kl.start hz)
  have HL := hid1 hl
  obtain ⟨J, eJ⟩ : ∃ J, L.length = J := ⟨_, rfl⟩
  have EJ := hid1 eJ
  rw [eJ] at hJ ⊢
  unfold maxLen at hc
  have iJ0 : (0 : Int) ≤ (J : Int) := by omega
  have ic0 : (0 : Int) ≤ (c : Int) := by omega
  have ic1 : (c : Int) ≤ 9223372036854775807 := by omega
  clear hz hl eJ
  go_enter Tryd.func13, Tryd.ntmps13
  go_wp2_with fail
  go_loopw [5, 6] (fun ok i wr => ∃ k fs, k ≤ c ∧ i = .int .i64 (k : Nat) ∧ ok = .bool true ∧ Kl w wr S hb g c L vb ve vc le gi ci pt fs k k) (fun _ i _ => c - (intOf i).toNat)
  case atStart => exact ⟨0, fs, Nat.zero_le _, rfl, rfl, HST.out⟩
  case round =>
    clear HST
    obtain ⟨k, fs, hk, rfl, rfl, hkl⟩ := hrel
    have ik0 : (0 : Int) ≤ (k : Int) := by omega
    have ch2 : wr.cell? ⟨hb, 2, none⟩ = some (.slice (some ⟨g, 0, none⟩) c c) := hkl.f.q.h.cell (by omega)
    by_cases hlt : k < c
    · have ik : (k : Int) < (c : Int) := by omega
      have fx := hkl.x.frozen k
      have cx := hkl.x.cell hlt
      by_cases hkJ : k < J
      · have ikJ : (k : Int) < (J : Int) := by omega
        have hkL : k < L.length := by rw [EJ.out]; exact hkJ
        rw [show nlk (lsf L gi ci pt) k k = .slice (some ⟨gi k, 0, none⟩) (L.getD k []).length (ci k) by unfold nlk lsf; rw [if_neg (by omega), if_pos hkL]] at cx
        obtain ⟨gl, ol, ao, cp, rfl, ck, yk, _, sk⟩ := (HL.out.bp hkl.bp fun _ h => h) k _ (getD_at hkL)
        obtain ⟨ln, eln⟩ : ∃ n, (L.getD k []).length = n := ⟨_, rfl⟩
        rw [eln] at ck cx
        have ELN := hid1 eln
        have HKL := hid1 hkl
        have HYK := hid1 yk
        have HSK := hid1 sk
        clear hkl yk sk eln
        go_upto_region 7 with fail
        go_quiet (fail)
        go_upto_region 8 with fail
        refine gen_world (fun X => Below wr.heap.size wr X) (bl_drewN (Below.refl _ _) _) ?_
        intro Y hY
        have hk1 := HKL.out.below hY
        have hkle : k < le := Nat.lt_of_lt_of_le hkL hk1.kl
        obtain ⟨ge, cw, fv, rfl, k1, k2, k3, k4⟩ : ∃ ge cw f, ve = .slice (some ⟨ge, 0, none⟩) le cw ∧ le ≤ cw ∧ cw ≤ maxLen ∧ Y.rowIs ge 25 cw f ∧ ∀ j, j < le → f j = wsf gi ci j := by
          rcases hk1.f.q.d.val with ⟨_, e⟩ | h
          · omega
          · exact h
        have ikle : (k : Int) < (le : Int) := by omega
        have cwq : Y.cell? ⟨ge, k, none⟩ = some (.slice (some ⟨gi k, 0, none⟩) (ci k) (ci k)) := by
          have h := k3.cell (i := k) (by omega)
          rw [k4 k hkle] at h
          exact h
        have x1 : Y.cell? ⟨hb, 1, none⟩ = some (.slice (some ⟨ge, 0, none⟩) le cw) := hk1.f.q.h.cell (by omega)
        replace ck := keepc hY ck
        have AF : Hid (∀ X, Below Y.heap.size Y X → Calls Tryd.prog 17 #[.slice (some ⟨gi k, 0, none⟩) (ci k) (ci k), .slice ao ln cp] X fun e w' => e = .returned (.bool true) ∧ w'.rowIs (gi k) 5 (ci k) (fun _ => .int .u8 99) ∧ BP (· = gi k) X w') := hid1 fun X hX => by
          have hk2 := hk1.below hX
          have h := asFilled_any (gi k) (ci k) ao cp (L.getD k []) X (by have := hk2.f.q.d.max k hkle; unfold maxLen at this; omega) (by have := hk2.cb k hkL; omega) (by rw [← hk2.dn k (Nat.le_refl _) hkL]; exact hk2.f.q.d.row k hkle) ((HYK.out.keep hY).keep hX) (fun p hp hl e => HSK.out p hp hl (by rw [e]; exact hk2.f.q.s.2.2.2 k hkle))
          rw [ELN.out] at h
          exact h
        have HK1 := hid1 hk1
        clear hk1 HKL HYK HSK k3 k4 ch2 fx cx hY
        refine still_tail 11 (by kernel_rfl) ?_
        simp only [List.take_succ_cons, List.take_zero, List.drop_succ_cons, List.drop_zero]
        repeat still_step
        refine wpStill_nil ?_
        go_upto_region 9 with (go_at_call 17; refine gen_calls (fun X => Below Y.heap.size Y X) (Below.drew (Below.refl _ _)) ?_; intro X hX; refine (AF.out X hX).mono ?_; rintro e w1 ⟨rfl, hrow1, hbut1⟩)
        have hk2 := (HK1.out.below hX).fill hkL hbut1 hrow1
        have ch2 : w1.cell? ⟨hb, 2, none⟩ = some (.slice (some ⟨g, 0, none⟩) c c) := hk2.f.q.h.cell (by omega)
        have fx := hk2.x.frozen k
        have cx := hk2.x.cell hlt
        have HK2 := hid1 hk2
        clear hk2 HK1 AF x1 cwq ck hbut1 hrow1
        go_wp2_with fail
        exact ⟨⟨k + 1, _, by omega, by go_num, rfl, HK2.out.null⟩, by simp [intOf]; omega⟩
      · have ikJ : (J : Int) ≤ (k : Int) := by omega
        rw [show nlk (lsf L gi ci pt) k k = .slice (some ⟨pt k, 0, none⟩) 1 1 by unfold nlk lsf; rw [if_neg (by omega), if_neg (by rw [EJ.out]; omega)]] at cx
        have cp := (hkl.pt k (Nat.le_refl _) hlt (by rw [EJ.out]; omega)).cell (i := 0) (by omega)
        have HKL := hid1 hkl
        clear hkl
        go_wp2_with fail
        exact ⟨⟨k + 1, fs, by omega, by go_num, rfl, HKL.out.null.more (by omega)⟩, by simp [intOf]; omega⟩
    · have hkc : k = c := by omega
      subst hkc
      have HKL := hid1 hkl
      clear hkl
      go_wp2_with fail
      go_ret
      exact ⟨rfl, ⟨fs, HKL.out.f⟩, HKL.out.bp⟩
end Go.Proofs.YtbpglkhgggokcaaDoor
