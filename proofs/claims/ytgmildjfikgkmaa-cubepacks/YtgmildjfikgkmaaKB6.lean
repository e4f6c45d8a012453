/- CubePacks. -/
import Derived.Test.YtgmildjfikgkmaaKB5
namespace Go.Proofs.Ytgmildjfikgkmaa
open Go.RowKit Go.Shelf

/-- A shape's cells in a list. -/
def Ch (w : World) (g o : Nat) (h v c : Int) : Prop := w.cell? ⟨g, o, none⟩ = some (.int .i64 h) ∧ w.cell? ⟨g, o + 1, none⟩ = some (.int .i64 v) ∧ w.cell? ⟨g, o + 2, none⟩ = some (.int .i64 c)
theorem Ch.below {W X : World} {g o : Nat} {h v c : Int} (k : Ch W g o h v c) (hb : Below W.heap.size W X) : Ch X g o h v c := ⟨keepc hb k.1, keepc hb k.2.1, keepc hb k.2.2⟩
def Lch (w : World) (ao : Option Addr) (m : Nat) : Prop := ∀ k, k < m → ∃ g o h v c, ao = some ⟨g, o, none⟩ ∧ Ch w g (o + k * 3) h v c
theorem Lch.below {W X : World} {ao : Option Addr} {m : Nat} (k : Lch W ao m) (hb : Below W.heap.size W X) : Lch X ao m := fun i hi => by
  obtain ⟨g, o, h, v, c, e, q⟩ := k i hi
  exact ⟨g, o, h, v, c, e, q.below hb⟩
def L8 (w : World) (ao : Option Addr) (m : Nat) : Prop := ∀ k, k < m → ∃ g o xo n xc l, ao = some ⟨g, o, none⟩ ∧ w.cell? ⟨g, o + k, none⟩ = some (.slice xo n xc) ∧ l.length = n ∧ n ≤ 140737488351232 ∧ R8 w xo l
theorem L8.below {W X : World} {ao : Option Addr} {m : Nat} (k : L8 W ao m) (hb : Below W.heap.size W X) : L8 X ao m := fun i hi => by
  obtain ⟨g, o, xo, n, xc, l, e, q, r1, r2, r3⟩ := k i hi
  exact ⟨g, o, xo, n, xc, l, e, keepc hb q, r1, r2, r3.below hb⟩
theorem rs_r8 {w : World} {ao : Option Addr} {l : List Int} {n : Nat} (hl : l.length = n) (h : Rs w ao n (fun k => .int .i8 (ia l k))) : R8 w ao l := fun k hk => h k (by omega)
theorem r8_rs {w : World} {ao : Option Addr} {l : List Int} {n : Nat} (hl : l.length = n) (h : R8 w ao l) : Rs w ao n (fun k => .int .i8 (ia l k)) := fun k hk => h k (by omega)
theorem kpP {Z Y : World} {g o g2 o2 : Nat} {h v c : Int} {xo : Option Addr} {n xc : Nat} (k : Ch Z g o h v c) (q : Z.cell? ⟨g2, o2, none⟩ = some (.slice xo n xc)) (hB : Below Z.heap.size Z Y) :
    (Y.cell? ⟨g, o, none⟩ = some (.int .i64 h) ∧ Y.cell? ⟨g, o + 1, none⟩ = some (.int .i64 v) ∧ Y.cell? ⟨g, o + 2, none⟩ = some (.int .i64 c)) ∧ Y.cell? ⟨g2, o2, none⟩ = some (.slice xo n xc) := ⟨k.below hB, keepc hB q⟩
theorem wr_putO {w : World} {bo : Option Addr} {m N b : Nat} (h : Wr w bo m N) (hb : ∀ g o, bo = some ⟨g, o, none⟩ → g ≠ b) (k : Nat) (u : Value) : Wr (w.setCell ⟨b, k, none⟩ u) bo m N :=
  ⟨h.1, fun j hj => by
    obtain ⟨g, o, e, c⟩ := h.2 j hj
    exact ⟨g, o, e, ((But.refl b w).set u).cell (hb g o e) c⟩⟩
set_option maxHeartbeats 3200000 in
set_option maxRecDepth 100000 in
theorem cubePacks_any (ao : Option Addr) (L ca : Nat) (bo : Option Addr) (M cb : Nat) (w : World) (hL : L ≤ 9223372036854775807) (hM : M ≤ 9223372036854775807) (rs : Lch w ao L) (rl : L8 w bo M) :
    Calls Try.prog 4 #[.slice ao L ca, .slice bo M cb] w fun e w' => e = .returned (.bool true) ∧ Below w.heap.size w w' := by
  have RS := hid1 rs
  have RL := hid1 rl
  clear rs rl
  go_enter Try.func4, Try.ntmps4
  go_wp2_with fail
  refine (cbegun_any w).mono ?_
  rintro e w1 ⟨rfl, B1⟩
  go_wp2_with fail
  go_loopw [5] (fun i wr => ∃ k : Nat, k ≤ L ∧ k ≤ M ∧ i = .int .i64 k ∧ Below w.heap.size w wr) (fun i _ => L - (intOf i).toNat)
  case atStart => exact ⟨0, Nat.zero_le _, Nat.zero_le _, rfl, B1⟩
  case round =>
    clear B1
    obtain ⟨k, hk, hk2, rfl, hnx⟩ := hrel
    have ik0 : (0 : Int) ≤ (k : Int) := by omega
    by_cases hlt : k < L
    · have ik : (k : Int) < (L : Nat) := by omega
      by_cases hlm : k < M
      · have ikm : (k : Int) < (M : Nat) := by omega
        obtain ⟨g, o, h, v, c, rfl, ch⟩ := (RS.out.below hnx) k hlt
        obtain ⟨g2, o2, xo, n, xc, l, rfl, cl, hl, hn, r8⟩ := (RL.out.below hnx) k hlm
        obtain ⟨a, b, d, mm, P, hS⟩ : ∃ a b d mm P, pS h v c l n = (a, b, d, mm, P) := ⟨_, _, _, _, _, rfl⟩
        obtain ⟨E, hE⟩ : ∃ E, pE h v c n = E := ⟨_, rfl⟩
        have hmm := pS_le hS
        have HPK := hid1 (fun g W r => pack_all h v c l n hl (some ⟨g, 0, none⟩) (n + 66) W (by omega) (by omega) r a b d mm P E hE hS)
        have HRP := hid1 (fun W r => rpack_all h v c l n hl xo xc W r a b d mm P E hE hS)
        have HLN := hid1 hl
        have HCH := hid1 ch
        have HCL := hid1 cl
        have HR8 := hid1 r8
        have HNX := hid1 hnx
        obtain ⟨c0, c1, c2⟩ := ch
        have lg := lt_of_cell c0
        have lg2 := lt_of_cell cl
        clear hS hE hl r8 hnx
        go_wp2_with fail
        refine (wide8_any n (fun k => ia l k) xo xc wr hn (r8_rs HLN.out HR8.out)).mono ?_
        rintro e w2 ⟨G, rfl, hG, row, hb⟩
        replace HCH := hid1 (HCH.out.below hb)
        replace HCL := hid1 (keepc hb HCL.out)
        replace HR8 := hid1 (HR8.out.below hb)
        have B2 := hid1 (bl_step HNX.out hb)
        clear hb HNX hG c0 c1 c2 cl lg lg2
        obtain ⟨c0, c1, c2⟩ := HCH.out
        go_wp2_with fail
        refine (HPK.out G w2 (rs_r8 HLN.out (rv_rs row))).mono ?_
        rintro e w3 ⟨bo1, K1, rfl, WA, hb⟩
        replace HCH := hid1 (HCH.out.below hb)
        replace HCL := hid1 (keepc hb HCL.out)
        replace HR8 := hid1 (HR8.out.below hb)
        replace row := keepr hb row
        have B3 := hid1 (bl_step B2.out hb)
        clear hb B2 c0 c1 c2 HPK
        go_upto_region 8 with fail
        refine gen_world (fun Z => Z.rowIs w3.heap.size 33 4 (cf a b d bo1 mm K1) ∧ Wr Z bo1 mm P ∧ Z.rowIs G 52 (n + 66) (rvf (fun k => ia l k) n) ∧ Ch Z g (o + k * 3) h v c ∧ Z.cell? ⟨g2, o2 + k, none⟩ = some (.slice xo n xc) ∧ R8 Z xo l ∧ Below w.heap.size w Z) ⟨cu_new _ _ _ _ _ _ _ _, WA.below (bl_alloc (Below.refl _ _) _), row.alloc _, HCH.out.below (bl_alloc (Below.refl _ _) _), keepc (bl_alloc (Below.refl _ _) _) HCL.out, HR8.out.below (bl_alloc (Below.refl _ _) _), bl_alloc B3.out _⟩ ?_
        clear WA row HCH HCL HR8 B3
        rintro Z ⟨QA, WA, row, CH, CL, R8Z, BZ⟩
        have HA := hid1 QA
        have HWA := hid1 WA
        have HRW := hid1 row
        have HCH := hid1 CH
        have HCL := hid1 CL
        have HR8 := hid1 R8Z
        have HBZ := hid1 BZ
        obtain ⟨c0, c1, c2⟩ := CH
        have lg := lt_of_cell c0
        have lg2 := lt_of_cell CL
        have hfo := follows
        clear QA WA row R8Z BZ
        go_cut [9, 10] from 39 to 50 (fun s9 s10 wx => ∃ bB bo2 K2, s9 = .pointer (some ⟨bB, 0, none⟩) ∧ s10 = .int .i64 E ∧ wx.rowIs bB 33 4 (cf a b d bo2 mm K2) ∧ Wr wx bo2 mm P ∧ Below Z.heap.size Z wx)
        case first =>
          go_region_held3 (fun Y => (Y.cell? ⟨g, o + k * 3, none⟩ = some (.int .i64 h) ∧ Y.cell? ⟨g, o + k * 3 + 1, none⟩ = some (.int .i64 v) ∧ Y.cell? ⟨g, o + k * 3 + 2, none⟩ = some (.int .i64 c)) ∧ Y.cell? ⟨g2, o2 + k, none⟩ = some (.slice xo n xc))
            (((try dsimp only); (with_reducible refine kpP (Z := Z) HCH.out HCL.out ?_); repeat (first | (with_reducible exact Below.refl _ _) | (with_reducible assumption) | (with_reducible refine Below.drew ?_) | (with_reducible refine bl_alloc ?_ _) | (with_reducible refine bl_set ?_ (Nat.le_refl _) _))))
            ((go_at_call 18; refine (HRP.out _ (HR8.out.below (by repeat (first | (with_reducible exact Below.refl _ _) | (with_reducible refine Below.drew ?_) | (with_reducible refine bl_alloc ?_ _))))).mono ?_; rintro e y1 ⟨bo2, K2, rfl, wr2, hpl, hb⟩; have HWR := hid1 wr2; have by1 : Below Z.heap.size Z y1 := (by first | exact bl_step (Below.refl _ _).drew hb | exact bl_step (bl_alloc (Below.refl _ _) _).drew hb); (try (have VR := keepr hb (cu_new Z 0 0 0 none 0 0 33).drew; have v0 := cf0 VR; have v1 := cf1 VR; have v2 := cf2 VR; have v3 := cf3 VR; have f0 := VR.frozen 0; have f1 := VR.frozen 1; have f2 := VR.frozen 2; have f3 := VR.frozen 3; have HVR := hid1 VR; clear VR)); clear wr2 hb))
          all_goals (refine kmeet_of (by assumption) ?_; go_meet)
          · exact ⟨y1.heap.size, bo2, K2, rfl, rfl, cu_new _ _ _ _ _ _ _ _, HWR.out.below (bl_alloc (Below.refl _ _) _), bl_alloc by1 _⟩
          · have hne : ∀ g o, bo2 = some ⟨g, o, none⟩ → g ≠ Z.heap.size := fun g o e => by
              have := hpl g o e
              simp at this
              omega
            exact ⟨Z.heap.size, bo2, K2, rfl, rfl, cf_set HVR.out a b d bo2 mm K2, wr_putO (wr_putO (wr_putO (wr_putO HWR.out hne 0 _) hne 1 _) hne 2 _) hne 3 _, bl_set (bl_set (bl_set (bl_set by1 (Nat.le_refl _) _) (Nat.le_refl _) _) (Nat.le_refl _) _) (Nat.le_refl _) _⟩
        case rest =>
          obtain ⟨bB, bo2, K2, rfl, rfl, QB, WB, Bc⟩ := hcut
          have QA := keepr Bc HA.out
          have WA := HWA.out.below Bc
          have RW := keepr Bc HRW.out
          have CL2 := keepc Bc HCL.out
          have R82 := HR8.out.below Bc
          have B5 := bl_step HBZ.out Bc
          clear HA HWA HRW HCH HCL HR8 HBZ Bc HRP c0 c1 c2 CL lg lg2
          have e0 := cf0 QA
          have e1 := cf1 QA
          have e2 := cf2 QA
          have e3 := cf3 QA
          have e4 := cf0 QB
          have e5 := cf1 QB
          have e6 := cf2 QB
          have e7 := cf3 QB
          go_wp2_with fail
          refine (cubes_same a b d mm P _ _ _ _ wc hmm WA WB).mono ?_
          rintro e w6 ⟨rfl, hb⟩
          replace RW := keepr hb RW
          replace CL2 := keepc hb CL2
          replace R82 := R82.below hb
          have B6 := bl_step B5 hb
          clear hb B5 QA QB WA WB e0 e1 e2 e3 e4 e5 e6 e7
          go_wp2_with fail
          refine (tight_true n G (fun k => ia l k) xo xc w6 hn RW (r8_rs HLN.out R82)).mono ?_
          rintro e w7 ⟨rfl, hb⟩
          have B7 := bl_step B6 hb
          clear hb B6 RW CL2 R82
          go_wp2_with fail
          exact ⟨⟨k + 1, by omega, by omega, by go_num, B7⟩, by simp [intOf]; omega⟩
      · have hkM : k = M := by omega
        subst hkM
        go_wp2_with fail
        go_ret
        exact ⟨rfl, hnx⟩
    · have hkL : k = L := by omega
      subst hkL
      go_wp2_with fail
      go_ret
      exact ⟨rfl, hnx⟩
end Go.Proofs.Ytgmildjfikgkmaa
