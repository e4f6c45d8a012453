/- Numbers. -/
import Derived.Test.YtpinmfhabbcflabDoorDW9
namespace Go.Proofs.YtpinmfhabbcflabDoor
open Go.RowKit
attribute [local go_sem ↓] Go.wp_at_zero Go.wp_at_succ

/-- What each plane weighs lies in its table. -/
def LaidP (w : World) : Prop := ∀ i, i < 8 → w.cell? ⟨0, i, none⟩ = some (.int .i64 (pw i))
theorem LaidP.on {w w' : World} (h : LaidP w) (hb : Below w.heap.size w w') : LaidP w' := fun i hi => keepc hb (h i hi)
def aF (P : Nat → Bt) (len : Int) : Bool := (List.range 8).all fun p => ftB (P p).n (P p).m (P p).N len
theorem aF_iff (P : Nat → Bt) (len : Int) : aF P len = true ↔ ∀ p, p < 8 → ftB (P p).n (P p).m (P p).N len = true := by simp [aF, List.all_eq_true]
def nmE (A B : Bt) (P : Nat → Bt) : Int := if dck A B ≠ 0 then dck A B else if aF P A.n = true then 0 else 20
def nmV (A B : Bt) (P : Nat → Bt) : Int := if nmE A B P = 0 then npl A.N B.N (fun p => (P p).N) A.n.toNat 8 else 0
theorem nmE_bad {A B : Bt} {P : Nat → Bt} (h : dck A B ≠ 0) : nmE A B P = dck A B := by unfold nmE; rw [if_pos h]
theorem nmV_bad {A B : Bt} {P : Nat → Bt} (h : nmE A B P ≠ 0) : nmV A B P = 0 := by unfold nmV; rw [if_neg h]
theorem eight {p : Nat → Prop} {i : Nat} (h : i < 8) (h0 : p 0) (h1 : p 1) (h2 : p 2) (h3 : p 3) (h4 : p 4) (h5 : p 5) (h6 : p 6) (h7 : p 7) : p i := by
  match i, h with
  | 0, _ => exact h0
  | 1, _ => exact h1
  | 2, _ => exact h2
  | 3, _ => exact h3
  | 4, _ => exact h4
  | 5, _ => exact h5
  | 6, _ => exact h6
  | 7, _ => exact h7
set_option maxRecDepth 100000 in
theorem p_index (P : Nat → Bt) (k : Nat) (h : k < 8) : ∀ w, (Instr.index 48 (.agg #[.int .i64 (P 0).n, .slice (P 0).ao (P 0).m (P 0).cap, .int .i64 (P 1).n, .slice (P 1).ao (P 1).m (P 1).cap, .int .i64 (P 2).n, .slice (P 2).ao (P 2).m (P 2).cap, .int .i64 (P 3).n, .slice (P 3).ao (P 3).m (P 3).cap, .int .i64 (P 4).n, .slice (P 4).ao (P 4).m (P 4).cap, .int .i64 (P 5).n, .slice (P 5).ao (P 5).m (P 5).cap, .int .i64 (P 6).n, .slice (P 6).ao (P 6).m (P 6).cap, .int .i64 (P 7).n, .slice (P 7).ao (P 7).m (P 7).cap]) (.int .i64 (k : Int))).run Tryd.prog w = .ok (.agg #[.int .i64 (P k).n, .slice (P k).ao (P k).m (P k).cap]) w := by
  intro w
  exact eight (p := fun k => (Instr.index 48 (.agg #[.int .i64 (P 0).n, .slice (P 0).ao (P 0).m (P 0).cap, .int .i64 (P 1).n, .slice (P 1).ao (P 1).m (P 1).cap, .int .i64 (P 2).n, .slice (P 2).ao (P 2).m (P 2).cap, .int .i64 (P 3).n, .slice (P 3).ao (P 3).m (P 3).cap, .int .i64 (P 4).n, .slice (P 4).ao (P 4).m (P 4).cap, .int .i64 (P 5).n, .slice (P 5).ao (P 5).m (P 5).cap, .int .i64 (P 6).n, .slice (P 6).ao (P 6).m (P 6).cap, .int .i64 (P 7).n, .slice (P 7).ao (P 7).m (P 7).cap]) (.int .i64 (k : Int))).run Tryd.prog w = .ok (.agg #[.int .i64 (P k).n, .slice (P k).ao (P k).m (P k).cap]) w) h (by kernel_rfl) (by kernel_rfl) (by kernel_rfl) (by kernel_rfl) (by kernel_rfl) (by kernel_rfl) (by kernel_rfl) (by kernel_rfl)
theorem pw_bd {p : Nat} (h : p < 8) : -128 ≤ pw p ∧ pw p ≤ 64 := eight (p := fun p => -128 ≤ pw p ∧ pw p ≤ 64) h (by decide) (by decide) (by decide) (by decide) (by decide) (by decide) (by decide) (by decide)
theorem mul_bd {a b : Int} {n : Nat} (ha : -128 ≤ a ∧ a ≤ 64) (hb : -(n : Int) ≤ b ∧ b ≤ n) : -(128 * (n : Int)) ≤ a * b ∧ a * b ≤ 128 * n := by
  have h1 : (a * b).natAbs ≤ 128 * n := by
    rw [Int.natAbs_mul]
    exact Nat.mul_le_mul (by omega) (by omega)
  omega
theorem npl_bd (S M : Nat) (P : Nat → Nat) (n : Nat) : ∀ q : Nat, q ≤ 8 → -(128 * (q : Int) * n) ≤ npl S M P n q ∧ npl S M P n q ≤ 128 * (q : Int) * n
  | 0, _ => by simp [npl]
  | q + 1, h => by
    have := npl_bd S M P n q (by omega)
    have := mul_bd (pw_bd (show q < 8 by omega)) (tq_bd (M &&& P q) S (P q) n)
    have e : 128 * ((q + 1 : Nat) : Int) * n = 128 * (q : Int) * n + 128 * n := by
      rw [Int.natCast_add, Int.mul_add, Int.add_mul]; simp
    simp only [npl]; rw [e]; omega
theorem npl_lim (S M : Nat) (P : Nat → Nat) {n q : Nat} (hn : n ≤ 16777216) (hq : q ≤ 8) : -17179869184 ≤ npl S M P n q ∧ npl S M P n q ≤ 17179869184 := by
  have := npl_bd S M P n q hq
  have h1 : 128 * (q : Int) * n ≤ 17179869184 := by
    have h2 : 128 * q * n ≤ 128 * 8 * 16777216 := Nat.mul_le_mul (Nat.mul_le_mul (Nat.le_refl _) hq) hn
    have h3 : ((128 * q * n : Nat) : Int) = 128 * (q : Int) * n := by simp
    omega
  omega

set_option maxHeartbeats 3200000 in
set_option maxRecDepth 100000 in
theorem numbers_bad (A B : Bt) (P : Nat → Bt) (w : World) (hA : Rw w A) (hB : Rw w B) (hd : dck A B ≠ 0) :
    Calls Tryd.prog 22 #[rwv A B, pv P] w fun e w' => e = .returned (.tuple #[.int .i64 0, .int .i64 (dck A B)]) ∧ Below w.heap.size w w' := by
  have enter : ∀ W : World, Below w.heap.size w W → Calls Tryd.prog 7 #[rwv A B] W fun e w' => e = .returned (.int .i64 (dck A B)) ∧ Below W.heap.size W w' := fun W hW => dcheck_any A B W (hA.below hW) (hB.below hW)
  generalize dck A B = q at *
  go_enter Tryd.func22, Tryd.ntmps22
  go_wp2_with fail
  refine gen_calls (fun W => Below w.heap.size w W) (bl_alloc (bl_alloc (Below.refl _ _) _) _) ?_
  intro W B0
  refine (enter W B0).mono ?_
  rintro e w1 ⟨rfl, hb1⟩
  clear enter
  go_wp2_with fail
  go_ret2
  exact ⟨rfl, bl_step B0 hb1⟩

theorem qp_new (w : World) (A B : Bt) (P : Nat → Bt) (t u : TypeId) : ((w.alloc (.cells #[.int .i64 A.n, .slice A.ao A.m A.cap, .int .i64 B.n, .slice B.ao B.m B.cap] t)).alloc (.cells #[.int .i64 (P 0).n, .slice (P 0).ao (P 0).m (P 0).cap, .int .i64 (P 1).n, .slice (P 1).ao (P 1).m (P 1).cap, .int .i64 (P 2).n, .slice (P 2).ao (P 2).m (P 2).cap, .int .i64 (P 3).n, .slice (P 3).ao (P 3).m (P 3).cap, .int .i64 (P 4).n, .slice (P 4).ao (P 4).m (P 4).cap, .int .i64 (P 5).n, .slice (P 5).ao (P 5).m (P 5).cap, .int .i64 (P 6).n, .slice (P 6).ao (P 6).m (P 6).cap, .int .i64 (P 7).n, .slice (P 7).ao (P 7).m (P 7).cap] u)).rowIs (w.heap.size + 1) u 16 (pfc P) := by
  have := p_new (w.alloc (.cells #[.int .i64 A.n, .slice A.ao A.m A.cap, .int .i64 B.n, .slice B.ao B.m B.cap] t)) P u
  rw [World.size_alloc] at this
  exact this
theorem kpn {W X : World} {bx t bz u v0 : Nat} {A B : Bt} {C : Bt} {k : Nat} (h1 : W.rowIs bx t 4 (qf A B)) (h2 : W.rowIs bz u 2 (sf C.n C.ao C.m C.cap)) (h3 : W.cell? ⟨v0, k, none⟩ = some (.int .i64 (pw k))) (hb : Below W.heap.size W X) :
    (X.cell? ⟨bx, 0, none⟩ = some (.int .i64 A.n) ∧ X.cell? ⟨bx, 1, none⟩ = some (.slice A.ao A.m A.cap) ∧ X.cell? ⟨bx, 2, none⟩ = some (.int .i64 B.n) ∧ X.cell? ⟨bx, 3, none⟩ = some (.slice B.ao B.m B.cap)) ∧ (X.cell? ⟨bz, 0, none⟩ = some (.int .i64 C.n) ∧ X.cell? ⟨bz, 1, none⟩ = some (.slice C.ao C.m C.cap)) ∧ X.cell? ⟨v0, k, none⟩ = some (.int .i64 (pw k)) := by
  have r := keepr hb h1
  have s := keepr hb h2
  exact ⟨⟨q0 r, q1 r, q2 r, q3 r⟩, ⟨sf_len s, sf_ws s⟩, keepc hb h3⟩
set_option maxHeartbeats 3200000 in
set_option maxRecDepth 100000 in
theorem numbers_any (A B : Bt) (P : Nat → Bt) (w : World) (LD : LaidP w) (hA : Rw w A) (hB : Rw w B) (hP : ∀ p, p < 8 → Rw w (P p)) :
    Calls Tryd.prog 22 #[rwv A B, pv P] w fun e w' => e = .returned (.tuple #[.int .i64 (nmV A B P), .int .i64 (nmE A B P)]) ∧ Below w.heap.size w w' := by
  by_cases hd0 : dck A B ≠ 0
  · have hd := hd0
    rw [nmV_bad (by rw [nmE_bad hd]; exact hd), nmE_bad hd]
    exact numbers_bad A B P w hA hB hd
  have hd : dck A B = 0 := Classical.byContradiction hd0
  clear hd0
  have HA := hid1 hA
  have HB := hid1 hB
  have HP := hid1 hP
  have HLD := hid1 LD
  obtain ⟨n, e1, e2, e3, e4, e5, e6, e7, _⟩ := dck_zero hd
  have enter : ∀ W : World, Below w.heap.size w W → Calls Tryd.prog 7 #[rwv A B] W fun e w' => e = .returned (.int .i64 (dck A B)) ∧ Below W.heap.size W w' := fun W hW => dcheck_any A B W (HA.out.below hW) (HB.out.below hW)
  have HE : Hid (nmE A B P = if aF P A.n = true then 0 else 20) := hid1 (by unfold nmE; rw [if_neg (by simp [hd])])
  have M1 := hid1 e4
  have M2 := hid1 e5
  have HN := hid1 e1
  obtain ⟨ev, hev⟩ : ∃ v, nmE A B P = v := ⟨_, rfl⟩
  obtain ⟨nv, hnv⟩ : ∃ v, nmV A B P = v := ⟨_, rfl⟩
  rw [hev, hnv]
  have HEV := hid1 hev
  have HNV := hid1 hnv
  have IX := hid1 (p_index P)
  clear hA hB hP LD e1 e2 e4 e5 hev hnv
  go_enter Tryd.func22, Tryd.ntmps22
  go_wp2_with fail
  refine gen_calls (fun W => Below w.heap.size w W ∧ W.rowIs w.heap.size 33 4 (qf A B) ∧ W.rowIs (w.heap.size + 1) 48 16 (pfc P)) ⟨bl_alloc (bl_alloc (Below.refl _ _) _) _, (q_new w A B _).alloc _, qp_new w A B P _ _⟩ ?_
  rintro W ⟨B0, r1, r2⟩
  refine (enter W B0).mono ?_
  rintro e w1 ⟨rfl, hb1⟩
  rw [hd]
  replace r1 := keepr hb1 r1
  replace r2 := keepr hb1 r2
  replace B0 := bl_step B0 hb1
  clear hb1 enter
  obtain ⟨a0, a1, a2, a3, a4, a5, a6, a7, a8, a9, a10, a11, a12, a13, a14, a15⟩ := c16 r2
  go_wp2_with fail
  clear a0 a1 a2 a3 a4 a5 a6 a7 a8 a9 a10 a11 a12 a13 a14 a15
  go_loopw [18] (fun i wr => ∃ k : Nat, k ≤ 8 ∧ i = .int .i64 k ∧ (∀ p, p < k → ftB (P p).n (P p).m (P p).N A.n = true) ∧ wr.rowIs w.heap.size 33 4 (qf A B) ∧ wr.rowIs (w.heap.size + 1) 48 16 (pfc P) ∧ Below w.heap.size w wr) (fun i _ => 8 - (intOf i).toNat)
  case atStart => exact ⟨0, Nat.zero_le _, rfl, fun p hp => by omega, r1, r2, B0⟩
  case round =>
    clear r1 r2 B0
    obtain ⟨k, hk, rfl, hall, r1, r2, B0⟩ := hrel
    have HALL := hid1 hall
    clear hall
    by_cases hlt : k < 8
    · have ik : (k : Int) < 8 := by omega
      have ik0 : (0 : Int) ≤ (k : Int) := by omega
      have ix := IX.out k hlt
      have c0 := q0 r1
      have R1 := hid1 r1
      have R2 := hid1 r2
      have l1 := r1.lt
      clear r1 r2
      go_wp2_with fail
      refine gen_calls (fun W => Below wr.heap.size wr W) (bl_alloc (Below.refl _ _) _) ?_
      intro X hX
      refine (fits_any (P k).n (P k).ao (P k).m (P k).cap (P k).N A.n X ((HP.out k hlt).below (bl_step B0 hX))).mono ?_
      rintro e w2 ⟨rfl, hb2⟩
      replace hX := bl_step hX hb2
      have R1' := hid1 (keepr hX R1.out)
      have R2' := hid1 (keepr hX R2.out)
      replace B0 := bl_step B0 hX
      clear ix c0 hX hb2 R1 R2 l1
      cases hft : ftB (P k).n (P k).m (P k).N A.n
      · have HQ : Hid (ev = 20) := by
          have h := HE.out
          rw [HEV.out, if_neg (fun h => by have := (aF_iff _ _).1 h k hlt; rw [hft] at this; cases this)] at h
          exact h
        have HQ2 : Hid (nv = 0) := by
          have h := nmV_bad (A := A) (B := B) (P := P) (by rw [HEV.out, HQ.out]; decide)
          rw [HNV.out] at h
          exact h
        go_wp2_with fail
        go_ret2
        refine ⟨?_, B0⟩
        rw [HQ.out, HQ2.out]
        rfl
      · go_wp2_with fail
        exact ⟨⟨k + 1, by omega, by go_num, fun p hp => by
          by_cases e : p = k
          · subst e; exact hft
          · exact HALL.out p (by omega), R1'.out, R2'.out, B0⟩, by simp [intOf]; omega⟩
    · have hk8 : k = 8 := by omega
      subst hk8
      have HQ : Hid (ev = 0) := by
        have h := HE.out
        rw [HEV.out, if_pos ((aF_iff _ _).2 HALL.out)] at h
        exact h
      have HQ2 : Hid (nv = npl A.N B.N (fun p => (P p).N) n 8) := by
        have h := HNV.out
        unfold nmV at h
        rw [if_pos (by rw [HEV.out, HQ.out]), HN.out, Int.toNat_natCast] at h
        exact h.symm
      have HM : Hid (∀ p, p < 8 → (P p).m = nw n ∧ (P p).N < 2 ^ n) := fun p hp => by
        have h := HALL.out p hp
        simp only [ftB, decide_eq_true_eq] at h
        obtain ⟨j, f1, f2, f3, f4⟩ := chk_zero h.1
        have : j = n := by have := h.2; have := HN.out; omega
        subst this
        exact ⟨f3, f4⟩
      obtain ⟨a0, a1, a2, a3, a4, a5, a6, a7, a8, a9, a10, a11, a12, a13, a14, a15⟩ := c16 r2
      clear r2
      go_wp2_with fail
      clear a0 a1 a2 a3 a4 a5 a6 a7 a8 a9 a10 a11 a12 a13 a14 a15
      have hbd := nw_bd e3
      go_loopw [9, 29] (fun s i wx => ∃ k : Nat, k ≤ 8 ∧ i = .int .i64 k ∧ s = .int .i64 (npl A.N B.N (fun p => (P p).N) n k) ∧ wx.rowIs w.heap.size 33 4 (qf A B) ∧ Below w.heap.size w wx) (fun _ i _ => 8 - (intOf i).toNat)
      case atStart => exact ⟨0, Nat.zero_le _, rfl, rfl, r1, B0⟩
      case round =>
        rename World => V
        clear r1 B0
        obtain ⟨k, hk, rfl, rfl, r1, B0⟩ := hrel
        by_cases hlt : k < 8
        · have ik : (k : Int) < 8 := by omega
          have ik0 : (0 : Int) ≤ (k : Int) := by omega
          have ix := IX.out k hlt
          have c9 := HLD.out.on B0 k hlt
          have OP : Hid (∀ X, Below w.heap.size w X → Calls Tryd.prog 43 #[rwv A B, (P k).v] X fun e w' => e = .returned (.int .i64 (tq (B.N &&& (P k).N) A.N (P k).N n)) ∧ Below X.heap.size X w') := fun X hX => overPlane_any A B (P k) n X e3 (HA.out.below hX) (HB.out.below hX) ((HP.out k hlt).below hX) M1.out M2.out (HM.out k hlt).1 (HM.out k hlt).2
          have HS : Hid (npl A.N B.N (fun p => (P p).N) n (k + 1) = npl A.N B.N (fun p => (P p).N) n k + pw k * tq (B.N &&& (P k).N) A.N (P k).N n) := rfl
          have b1 := npl_lim A.N B.N (fun p => (P p).N) e3 (show k ≤ 8 by omega)
          have b2 := mul_bd (pw_bd hlt) (tq_bd (B.N &&& (P k).N) A.N (P k).N n)
          have R1 := hid1 r1
          generalize tq (B.N &&& (P k).N) A.N (P k).N n = b at *
          generalize npl A.N B.N (fun p => (P p).N) n k = st at *
          go_wp2_with fail
          refine gen_world (fun X => Below V.heap.size V X ∧ X.rowIs V.heap.size 31 2 (sf (P k).n (P k).ao (P k).m (P k).cap)) ⟨bl_alloc (Below.refl _ _) _, row_new _ _ _ _ _ _⟩ ?_
          rintro X ⟨hX, r3⟩
          have hr1 := keepr hX R1.out
          have hc9 := keepc hX c9
          have BX := bl_step B0 hX
          have HR1 := hid1 hr1
          have HR3 := hid1 r3
          have HC9 := hid1 hc9
          clear ix c9 r1 hr1 hc9 r3
          go_region_held3 (fun Y => (Y.cell? ⟨w.heap.size, 0, none⟩ = some (.int .i64 A.n) ∧ Y.cell? ⟨w.heap.size, 1, none⟩ = some (.slice A.ao A.m A.cap) ∧ Y.cell? ⟨w.heap.size, 2, none⟩ = some (.int .i64 B.n) ∧ Y.cell? ⟨w.heap.size, 3, none⟩ = some (.slice B.ao B.m B.cap)) ∧ (Y.cell? ⟨V.heap.size, 0, none⟩ = some (.int .i64 (P k).n) ∧ Y.cell? ⟨V.heap.size, 1, none⟩ = some (.slice (P k).ao (P k).m (P k).cap)) ∧ Y.cell? ⟨0, k, none⟩ = some (.int .i64 (pw k)))
            (((try dsimp only); (with_reducible refine kpn HR1.out HR3.out HC9.out ?_); repeat (first | (with_reducible exact Below.refl _ _) | (with_reducible refine Below.drew ?_) | (with_reducible refine bl_step ?_ (by assumption)))))
            ((go_at_call 43; refine gen_calls (fun Y => Below X.heap.size X Y) (by repeat (first | (with_reducible exact Below.refl _ _) | (with_reducible refine Below.drew ?_))) ?_; intro Y hY; refine (OP.out Y (bl_step BX hY)).mono ?_; rintro e y1 ⟨rfl, hb1⟩))
          have BY := bl_step (bl_step BX hY) hb1
          have HR4 := hid1 (keepr (bl_step hY hb1) HR1.out)
          clear OP HR1 HR3 HC9
          obtain ⟨pq, hpq⟩ : ∃ c, pw k * b = c := ⟨_, rfl⟩
          rw [hpq] at b2
          have HC := hid1 hpq
          clear hpq
          rw [HC.out] at HS
          have HF : Hid (IntKind.i64.wrap (pw k * b) = pq) := hid1 (by rw [HC.out, IntKind.wrap_i64]; omega)
          have HG : Hid (IntKind.i64.wrap (st + pq) = st + pq) := hid1 (by rw [IntKind.wrap_i64]; omega)
          go_wp2_with fail
          refine ⟨?_, by simp [intOf]; omega⟩
          (repeat apply Exists.intro)
          exact ⟨⟨k + 1, by omega, by go_num, by rw [HS.out, HF.out, HG.out], HR4.out, BY⟩, rfl⟩
        · have hk8 : k = 8 := by omega
          subst hk8
          go_wp2_with fail
          go_ret2
          refine ⟨?_, B0⟩
          rw [HQ.out, HQ2.out]
          rfl
end Go.Proofs.YtpinmfhabbcflabDoor
