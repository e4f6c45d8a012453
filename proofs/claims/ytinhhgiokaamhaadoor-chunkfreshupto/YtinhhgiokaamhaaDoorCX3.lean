/- CHUNKFRESH: the Book's extend. -/
import Derived.Test.YtinhhgiokaamhaaDoorCX2
namespace Go.Proofs.YtinhhgiokaamhaaDoor
open Go.RowKit

theorem cell_one_new (w : World) (v : Value) (t : TypeId) : ∀ (j : Nat) (u : Value), [v][j]? = some u → (w.alloc (.cells #[v] t)).cell? ((⟨w.heap.size, 0, none⟩ : Addr).add j) = some u := by
  intro j u hj
  rcases j with _ | j
  · simp at hj; subst hj; simp [Addr.add, go_sem]
  · simp at hj
theorem mo_same (k : Nat) : mo k k = k := by unfold mo; rw [if_neg (by omega)]
section
variable {w w1 : World} {B : Nat → Prop} {bb : Nat} {vl : Value} {mu : Int} {ny nl : Nat} {ao : Nat → Option Addr} {n c : Nat → Nat} {lo : Nat → Option Addr} {m d : Nat → Nat}
/-- An entry of the lists of bytes is another one. -/
theorem Bk.putE {gy cy j p q : Nat} {x : Option Addr} (h : Bk w B bb (.slice (some ⟨gy, 0, none⟩) ny cy) vl mu ny nl ao n c lo m d) (hj : j < ny) (hw : Below w.heap.size w w1) (ho : w1.ownsRow 0 5 1 (.slice x p q) p (u8s (nms j p))) (hq : j % 2 = 0 → q = p) (hp : p ≤ 16777216 + j % 2) (hb : ∀ g, (Value.slice x p q).ownBlock = some g → B g) :
    Bk (w1.setCell ⟨gy, j, none⟩ (.slice x p q)) B bb (.slice (some ⟨gy, 0, none⟩) ny cy) vl mu ny nl (upd ao j x) (upd n j p) (upd c j q) lo m d := by
  have h1 : Bk w1 B bb (.slice (some ⟨gy, 0, none⟩) ny cy) vl mu ny nl ao n c lo m d := h.bp (T := fun _ => False) (BP.bel hw) fun _ _ h => h
  obtain ⟨f, k1, k2, k3, k4⟩ : ∃ f, ny ≤ cy ∧ cy ≤ maxLen ∧ w1.rowIs gy 23 cy f ∧ ∀ j, j < ny → f j = sv ao n c j := by
    rcases h1.y with ⟨e, _⟩ | ⟨b, c', f, e, k1, k2, k3, k4⟩
    · injection e with e; cases e
    · injection e with e _ e2
      injection e with e
      injection e with e
      subst e e2
      exact ⟨f, k1, k2, k3, k4⟩
  have hu : BP (· = gy) w1 (w1.setCell ⟨gy, j, none⟩ (.slice x p q)) := BP.self _ _ _ _
  refine ⟨h1.h.setOther (a := ⟨gy, j, none⟩) (row_ne h1.h k3 (by decide)) _, .inr ⟨gy, cy, _, rfl, k1, k2, k3.set j _, fun i hi => ?_⟩, h1.l.bp hu fun g e e2 => h1.l.ne k3 (by decide) (e.trans (by rw [e2])), fun i hi => ?_, fun i hi => own_keep hu (h1.el i hi) fun g e e2 => own_row_ne (h1.el i hi) k3 (by decide) (e.trans (by rw [e2])), fun i hi h2 => ?_, fun i hi => ?_, h1.s.1, h1.s.2.1, h1.s.2.2.1, fun i hi g e => ?_, h1.s.2.2.2.2⟩
  · by_cases e : i = j
    · subst e; simp [sv, upd]
    · have h5 := k4 i hi
      simp [e, sv, upd, h5]
  · by_cases e : i = j
    · subst e
      rw [upd_same, upd_same, upd_same]
      exact own_keep hu ho fun g e e2 => own_row_ne ho k3 (by decide) (e.trans (by rw [e2]))
    · rw [upd_other _ _ _ e, upd_other _ _ _ e, upd_other _ _ _ e]
      exact own_keep hu (h1.ey i hi) fun g e e2 => own_row_ne (h1.ey i hi) k3 (by decide) (e.trans (by rw [e2]))
  · by_cases e : i = j
    · subst e; rw [upd_same, upd_same]; exact hq h2
    · rw [upd_other _ _ _ e, upd_other _ _ _ e]; exact h1.ev i hi h2
  · by_cases e : i = j
    · subst e; rw [upd_same]; exact hp
    · rw [upd_other _ _ _ e]; exact h1.sm i hi
  · by_cases e2 : i = j
    · subst e2
      rw [upd_same, upd_same, upd_same] at e
      exact hb g e
    · rw [upd_other _ _ _ e2, upd_other _ _ _ e2, upd_other _ _ _ e2] at e
      exact h1.s.2.2.2.1 i hi g e
end
theorem own_olds {w : World} {T n : Nat} {la : Option Addr} {k cap : Nat} {xs : List Value} (h : w.ownsRow 0 T 1 (.slice la k cap) n xs) : (la = none → k = 0 ∧ cap = 0) ∧ ∀ b, la = some b → ∀ j u, xs[j]? = some u → w.cell? (b.add j) = some u := by
  rcases h.2 with ⟨e, h0⟩ | ⟨g, cap', cur, hv, _⟩
  · injection e with e1 e2 e3
    subst e1 e2 e3
    exact ⟨fun _ => ⟨rfl, rfl⟩, fun b e => by cases e⟩
  · injection hv with e1 e2 e3
    subst e1
    refine ⟨fun e => (by cases e), fun b e j u hj => ?_⟩
    injection e with e
    subst e
    exact h.cells rfl j u hj
set_option maxHeartbeats 3200000 in
set_option maxRecDepth 100000 in
theorem extend_any (B : Nat → Prop) (bb ny nl fr : Nat) (w : World) (hb : Bi w B bb ny nl) (hny : ny ≤ 4398046511104) (hev : ny % 2 = 0) (hfe : fr % 2 = 0) (hfr : fr ≤ ny) :
    Calls Tryd.prog 41 #[.pointer (some ⟨bb, 0, none⟩), .int .i64 fr] w fun e w' => e = .returned (.tuple #[]) ∧ Bi w' (fun b => B b ∨ w.heap.size ≤ b) bb ny nl ∧ BP B w w' := by
  have HB := hid1 hb
  obtain ⟨i0, hi, hz0, hz1, hz2⟩ := info_parts info_u8
  have iy0 : (0 : Int) ≤ (ny : Int) := by omega
  have iy1 : (ny : Int) ≤ 4398046511104 := by omega
  clear hb
  go_enter Tryd.func41, Tryd.ntmps41
  go_wp2_with fail
  go_loopw [4] (fun s wr => ∃ i : Nat, i ≤ ny ∧ i % 2 = 0 ∧ s = .int .i64 i ∧ Bi wr (fun b => B b ∨ w.heap.size ≤ b) bb ny nl ∧ BP B w wr) (fun s _ => ny - (intOf s).toNat)
  case atStart => exact ⟨fr, hfr, hfe, rfl, HB.out.sub fun b h _ => .inl h, BP.refl _ _⟩
  case round =>
    clear HB
    obtain ⟨i, hi1, hie, rfl, hbi, hbp⟩ := hrel
    obtain ⟨vy, vl, mu, ao, n, c, lo, m, d, hbk⟩ := hbi
    have ii0 : (0 : Int) ≤ (i : Int) := by omega
    obtain ⟨yo, yc, evy⟩ := hbk.y.val
    subst evy
    have c0 : wr.cell? ⟨bb, 0, none⟩ = some (.slice yo ny yc) := hbk.h.cell (by omega)
    by_cases hlt : i < ny
    · have ii : (i : Int) < (ny : Int) := by omega
      have hlt1 : i + 1 < ny := by omega
      have ii1 : (i : Int) + 1 < (ny : Int) := by omega
      have ii2 : (0 : Int) ≤ (i : Int) + 1 := by omega
      have ii3 : ((i : Int) + 1).toNat = i + 1 := by omega
      have ii4 : IntKind.i64.wrap ((i : Int) + 1) = (i : Int) + 1 := by simp [IntKind.wrap, IntKind.signed, IntKind.bits]; omega
      obtain ⟨gy, e, f, k1, k2, k3, k4⟩ : ∃ gy, yo = some ⟨gy, 0, none⟩ ∧ ∃ f, ny ≤ yc ∧ yc ≤ maxLen ∧ wr.rowIs gy 23 yc f ∧ ∀ j, j < ny → f j = sv ao n c j := by
        rcases hbk.y with ⟨e, e0⟩ | ⟨b, c', f, e, k1, k2, k3, k4⟩
        · omega
        · injection e with e _ e2
          subst e e2
          exact ⟨b, rfl, f, k1, k2, k3, k4⟩
      subst e
      obtain ⟨k, ek⟩ : ∃ k, n i = k := ⟨_, rfl⟩
      obtain ⟨la, ela⟩ : ∃ la, ao i = la := ⟨_, rfl⟩
      have eck : c i = k := (hbk.ev i hlt hie).trans ek
      have cy : wr.cell? ⟨gy, i, none⟩ = some (.slice la k k) := by
        have h := k3.cell (i := i) (by omega)
        rw [k4 i hlt] at h
        unfold sv at h
        rw [ela, ek, eck] at h
        exact h
      have fy := k3.frozen i
      have hkb := hbk.sm i hlt
      rw [ek] at hkb
      replace hkb : k ≤ 16777216 := by omega
      have ik0 : (0 : Int) ≤ (k : Int) := by omega
      have ik1 : (k : Int) ≤ 16777216 := by omega
      have hoi := hbk.ey i hlt
      have hsi := hbk.s.2.2.2.1 i hlt
      rw [ela, ek, eck] at hoi hsi
      have HB9 := hid1 (fun w1 (hw : Below wr.heap.size wr w1) => hbk.putE hlt hw (own_keep (S := fun _ => False) (BP.bel hw) hoi fun _ _ h => h) (fun _ => rfl) (by omega) hsi)
      have HBP := hid1 hbp
      have MA := hid1 (fun W => most_any k k (by omega) W)
      rw [mo_same] at MA
      have hyb := row_ne k3 hbk.h (by decide)
      have hyb' := hyb.symm
      have HSY := hid1 (hbk.s.2.1 gy rfl)
      clear hbk hbp k4 hoi hsi ek ela eck
      go_upto_region 4 with fail
      go_quiet ((go_at_call 38; exact Calls.quiet_of_same (MA.out _)))
      go_wp2_with fail
      go_loopw [7] (fun s wx => s = .int .i64 (k : Nat) ∧ wx = wr.drewN nq) (fun _ _ => 0)
      case atStart => exact ⟨rfl, rfl⟩
      case round =>
        obtain ⟨rfl, ewr⟩ := hrel
        have ikk : ¬ (k : Int) < (k : Int) := by omega
        subst ewr
        go_upto_region 10 with fail
        refine gen_world (fun X => Bk X (fun b => B b ∨ w.heap.size ≤ b) bb (.slice (some ⟨gy, 0, none⟩) ny yc) vl mu ny nl (upd ao i la) (upd n i k) (upd c i k) lo m d ∧ BP B w X) ⟨HB9.out _ (bl_drewN (Below.refl _ _) _), (HBP.out.drewN _).set HSY.out _⟩ ?_
        rintro X ⟨hbX, hpX⟩
        have hoX := hbX.ey i hlt
        rw [upd_same, upd_same, upd_same] at hoX
        obtain ⟨O1, O2⟩ := own_olds hoX
        have ON := hid1 O1
        have OL := hid1 (fun W (hW : Below X.heap.size X W) => (own_olds (own_keep (S := fun _ => False) (BP.bel hW) hoX fun _ _ h => h)).2)
        obtain ⟨f9, r9⟩ : ∃ f9, X.rowIs gy 23 yc f9 := by
          rcases hbX.y with ⟨e, _⟩ | ⟨b, c', f, e, _, _, k3, _⟩
          · injection e with e; cases e
          · injection e with e _ e2
            injection e with e
            injection e with e
            subst e e2
            exact ⟨f, k3⟩
        have x0 : X.cell? ⟨bb, 0, none⟩ = some (.slice (some ⟨gy, 0, none⟩) ny yc) := hbX.h.cell (by omega)
        have HBX := hid1 hbX
        have HPX := hid1 hpX
        have HR9 := hid1 r9
        have hgyX := r9.lt
        have hbbX := hbX.h.lt
        have hbbN : bb ≠ X.heap.size := by omega
        clear HB9 HBP c0 cy fy k3 hbX hpX hoX O1 O2 r9 MA
        go_region_law (first
          | (refine step_append_grows rfl (.tmp 70) (.tmp 75) 23 rfl 5 i0 (.int .u8 0) 1 1 und_u8s hi hz0 hz1 hz2 rfl (by decide) la k k (u8s (nms i k)) (by go_simp) ON.out (by simp [u8s, nms]) (OL.out _ (by repeat (first | (with_reducible exact Below.refl _ _) | (with_reducible assumption) | (with_reducible refine Below.drew ?_) | (with_reducible refine bl_alloc ?_ _) | (with_reducible refine bl_drewN ?_ _)))) ⟨X.heap.size, 0, none⟩ 1 1 [.int .u8 ((nmr i k : Nat) : Int)] (by go_simp) rfl (cell_one_new X (.int .u8 ((nmr i k : Nat) : Int)) 5) (fun u hu => by simp at hu; subst hu; rfl) (by omega) (by unfold maxLen; omega) (by omega) ?_; intro v1 y1 hown1 hgrow1; have by1 : Below X.heap.size X y1 := (by refine bl_step ?_ (grown_bel hgrow1); repeat (first | (with_reducible exact Below.refl _ _) | (with_reducible assumption) | (with_reducible refine Below.drew ?_) | (with_reducible refine bl_alloc ?_ _) | (with_reducible refine bl_drewN ?_ _))); obtain ⟨g2, c2, rfl⟩ := own_slice hown1; have p0 := keepc by1 x0; have pr := keepr by1 HR9.out; have pf := pr.frozen (i + 1); have pc := pr.cell (i := i + 1) (by omega); have HO1 := hid1 hown1; clear hown1 hgrow1 pr)
          | (go_simp; go_at_call 42; refine (nmr_any i k (by omega) _).mono ?_; rintro e w9 ⟨rfl, rfl⟩))
        all_goals
          have hfin : Bk (y1.setCell ⟨gy, i + 1, none⟩ (.slice (some ⟨g2, 0, none⟩) (k + 1) c2)) (fun b => B b ∨ w.heap.size ≤ b) bb (.slice (some ⟨gy, 0, none⟩) ny yc) vl mu ny nl _ _ _ lo m d := HBX.out.putE hlt1 by1 (by rw [nms_odd hie, nms_succ, ← u8s_app]; exact own_mono HO1.out (Nat.zero_le _)) (fun h => absurd h (by omega)) (by omega) (fun g e => .inr (by have := (HO1.out.lt g e).1; have := HPX.out.size; simp at *; omega))
          have hpF := (HPX.out.step by1).set (g := gy) (o := i + 1) HSY.out (.slice (some ⟨g2, 0, none⟩) (k + 1) c2)
          have HFIN := hid1 hfin
          have HPF := hid1 hpF
          clear hfin hpF HBX HPX HR9 x0 ON OL HO1 by1
          go_wp2_with fail
          exact ⟨⟨i + 2, by omega, by omega, by go_num, ⟨_, _, _, _, _, _, _, _, _, HFIN.out⟩, HPF.out⟩, by simp [intOf]; omega⟩
    · obtain rfl : i = ny := by omega
      have HBI := hid1 hbk
      have HBP := hid1 hbp
      clear hbk hbp
      go_wp2_with fail
      refine bodyPost_end (v := .tuple #[]) (by simp [results, go_sem]) rfl ?_
      exact ⟨rfl, ⟨_, _, _, _, _, _, _, _, _, HBI.out⟩, HBP.out⟩
end Go.Proofs.YtinhhgiokaamhaaDoor
