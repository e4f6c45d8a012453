/- PACKAGE pool: the walk. -/
import Derived.Test.YtmbhapegdbajpaaUW1
import Derived.Test.YtmbhapegdbajpaaSW4
import Derived.Test.YtmbhapegdbajpaaBW15
namespace Go.Proofs.Ytmbhapegdbajpaa
open Go.RowKit Go.Shelf

theorem Wn.butU {g x : Nat} {W w' : World} {r s sy sx t l b q : Int} (k : Sg.Wn W x 0 r s sy sx t l b q) (hb : But g W w') (hx : x ≠ g) : Sg.Wn w' x 0 r s sy sx t l b q :=
  ⟨hb.cell hx k.1, hb.cell hx k.2.1, hb.cell hx k.2.2.1, hb.cell hx k.2.2.2.1, hb.cell hx k.2.2.2.2.1, hb.cell hx k.2.2.2.2.2.1, hb.cell hx k.2.2.2.2.2.2.1, hb.cell hx k.2.2.2.2.2.2.2⟩
/-- What the walk has in memory: the cube, the window, the shape of what it gives. -/
structure Pm (W : World) (b : Nat) (H V C OH OW K : Int) (g o m cap : Nat) (R S sy sx : Int) : Prop where
  cu : W.rowIs b 35 4 (cf H V C (some ⟨g, o, none⟩) m cap)
  wi : Sg.Wn W (b + 1) 0 R S sy sx 0 0 0 0
  sh : W.rowIs (b + 2) 32 3 (hf OH OW K)
theorem Pm.but {W w' : World} {b x : Nat} {H V C OH OW K : Int} {g o m cap : Nat} {R S sy sx : Int} (h : Pm W b H V C OH OW K g o m cap R S sy sx) (hb : But x W w') (hx : b + 2 < x) : Pm w' b H V C OH OW K g o m cap R S sy sx :=
  ⟨hb.row (by omega) h.cu, Wn.butU h.wi hb (by omega), hb.row (by omega) h.sh⟩
/-- The words that are there when n of them are. -/
def gz (X n : Nat) : Nat → Value := fun j => if j < n then wf X j else .int .u64 0
theorem gz_zero (X j : Nat) : gz X 0 j = .int .u64 0 := by simp [gz]
theorem gz_next {X d p n n' y : Nat} (hn : p * d = n) (hn' : n + d = n') (hy : pl X d p = y) (j : Nat) : sgU (gz X n) n d (wd y) j = gz X n' j := by
  unfold sgU gz
  by_cases e : n ≤ j ∧ j < n + d
  · rw [if_pos e, if_pos (by omega)]
    unfold wf
    rw [← hy, pl_wd (by omega), hn, show n + (j - n) = j by omega]
  · rw [if_neg e]
    by_cases e2 : j < n
    · rw [if_pos e2, if_pos (by omega)]
    · rw [if_neg e2, if_neg (by omega)]
/-- What is still to be filled, as a slice. -/
def Pv (v : Value) (G M n : Nat) : Prop := ∃ q, v = .slice (some ⟨G, q, none⟩) (M - n) (M - n) ∧ (n < M → q = n)
theorem walk_start (w : World) (h v c : Int) (ao : Option Addr) (m cap : Nat) (r s sy sx : Int) (oh ow k : Int) (M vd : Nat) : ∃ W, ((((w.alloc (.cells #[.int .i64 h, .int .i64 v, .int .i64 c, .slice ao m cap] 35)).alloc (.cells #[.int .i64 r, .int .i64 s, .int .i64 sy, .int .i64 sx, .int .i64 0, .int .i64 0, .int .i64 0, .int .i64 0] 24)).alloc (.cells #[.int .i64 oh, .int .i64 ow, .int .i64 k] 32)).alloc (.cells (madeCells #[.int .u64 0] M) 47)).alloc (.cells (madeCells #[.int .u64 0] vd) 47) = W ∧ W.heap.size = w.heap.size + 5 ∧ Below w.heap.size w W ∧
    W.rowIs w.heap.size 35 4 (cf h v c ao m cap) ∧ Sg.Wn W (w.heap.size + 1) 0 r s sy sx 0 0 0 0 ∧ W.rowIs (w.heap.size + 2) 32 3 (hf oh ow k) ∧ W.rowIs (w.heap.size + 3) 47 M (fun _ => .int .u64 0) ∧ W.rowIs (w.heap.size + 4) 47 vd (fun _ => .int .u64 0) := by
  refine ⟨_, rfl, by simp, bl_alloc (bl_alloc (bl_alloc (bl_alloc (bl_alloc (Below.refl _ _) _) _) _) _) _, ((((cu_new w _ _ _ _ _ _ _).alloc _).alloc _).alloc _).alloc _, ?_, ?_, ?_, ?_⟩
  · have := Sg.wn_new (w.alloc (.cells #[.int .i64 h, .int .i64 v, .int .i64 c, .slice ao m cap] 35)) r s sy sx 0 0 0 0 24
    rw [World.size_alloc] at this
    exact ((this.keep (bl_alloc (Below.refl _ _) _)).keep (bl_alloc (Below.refl _ _) _)).keep (bl_alloc (Below.refl _ _) _)
  · have := hf_new ((w.alloc (.cells #[.int .i64 h, .int .i64 v, .int .i64 c, .slice ao m cap] 35)).alloc (.cells #[.int .i64 r, .int .i64 s, .int .i64 sy, .int .i64 sx, .int .i64 0, .int .i64 0, .int .i64 0, .int .i64 0] 24)) oh ow k 32
    rw [World.size_alloc, World.size_alloc] at this
    exact (this.alloc _).alloc _
  · have := World.rowIs_made (((w.alloc (.cells #[.int .i64 h, .int .i64 v, .int .i64 c, .slice ao m cap] 35)).alloc (.cells #[.int .i64 r, .int .i64 s, .int .i64 sy, .int .i64 sx, .int .i64 0, .int .i64 0, .int .i64 0, .int .i64 0] 24)).alloc (.cells #[.int .i64 oh, .int .i64 ow, .int .i64 k] 32)) (.int .u64 0) M 47
    rw [World.size_alloc, World.size_alloc, World.size_alloc] at this
    exact this.alloc _
  · have := World.rowIs_made ((((w.alloc (.cells #[.int .i64 h, .int .i64 v, .int .i64 c, .slice ao m cap] 35)).alloc (.cells #[.int .i64 r, .int .i64 s, .int .i64 sy, .int .i64 sx, .int .i64 0, .int .i64 0, .int .i64 0, .int .i64 0] 24)).alloc (.cells #[.int .i64 oh, .int .i64 ow, .int .i64 k] 32)).alloc (.cells (madeCells #[.int .u64 0] M) 47)) (.int .u64 0) vd 47
    rw [World.size_alloc, World.size_alloc, World.size_alloc, World.size_alloc] at this
    exact this
theorem sgU_all {f : Nat → Value} {s X j : Nat} (hj : j < s) : sgU f 0 s (wd X) j = wf X j := by
  unfold sgU wf; rw [if_pos ⟨Nat.zero_le _, by omega⟩, Nat.sub_zero]
set_option maxHeartbeats 3200000 in
set_option maxRecDepth 100000 in
theorem pwalk_any (al : Bool) (F : Nat) (HJ : Jok al F) (H V C g o m cap N R S sy sx OH OW : Nat) (K : Int) (w : World) (hH : H ≤ 4096) (hV : 1 ≤ V ∧ V ≤ 4096) (hC : 1 ≤ C ∧ C ≤ 4096) (hR : 1 ≤ R ∧ R ≤ 15) (hS : 1 ≤ S ∧ S ≤ 15)
    (hOH : OH ≤ 4096) (hOW : OW ≤ 4096) (fy : ∀ y, y < OH → y * sy + R ≤ H) (fx : ∀ x, x < OW → x * sx + S ≤ V) (hm : m = H * V * nw C) (hmc : m ≤ cap) (hlt : g < w.heap.size)
    (rd : Wr w (some ⟨g, o, none⟩) m N) (M : Nat) (hM : OH * OW * nw C = M) :
    Calls Try.prog 22 #[cuv H V C (some ⟨g, o, none⟩) m cap, Sg.win R S sy sx 0 0 0 0, Sg.shp OH OW K, jfn F] w fun e w' => ∃ G, e = .returned (.slice (some ⟨G, 0, none⟩) M M) ∧ w.heap.size ≤ G ∧ w'.rowIs G 47 M (wf (poN al N V (nw C) R S sy sx OW (OH * OW))) ∧ Below w.heap.size w w' := by
  have e1 : ((C : Int) + 63) / 64 = (nw C : Nat) := by unfold nw; omega
  have e1' : ((C : Int) + 63).tdiv 64 = (nw C : Nat) := by rw [Int.tdiv_eq_ediv_of_nonneg (by omega)]; exact e1
  have hd : nw C ≤ 64 := by unfold nw; omega
  have hd0 : 0 < nw C := by unfold nw; omega
  obtain ⟨d, hdd⟩ : ∃ d, nw C = d := ⟨_, rfl⟩
  rw [hdd] at e1 e1' hd hd0 hm hM ⊢
  clear hdd
  have hPOS := hid1 (fun p (hp : p < OH * OW) => poN_pl (al := al) (N := N) (V := V) (d := d) (R := R) (S := S) (sy := sy) (sx := sx) (OW := OW) hp)
  obtain ⟨X, hX⟩ : ∃ X, poN al N V d R S sy sx OW (OH * OW) = X := ⟨_, rfl⟩
  rw [hX] at hPOS ⊢
  clear hX
  obtain ⟨vd, hvd⟩ : ∃ x, V * d = x := ⟨_, rfl⟩
  obtain ⟨P, hP⟩ : ∃ x, OH * OW = x := ⟨_, rfl⟩
  have bP : P ≤ 16777216 := by rw [← hP]; exact Nat.mul_le_mul hOH hOW
  have bM : M ≤ 1073741824 := by rw [← hM, hP]; exact Nat.mul_le_mul bP hd
  have bvd : vd ≤ 262144 := by rw [← hvd]; exact Nat.mul_le_mul hV.2 hd
  have bvd0 : 0 < vd := by rw [← hvd]; exact Nat.mul_pos hV.1 hd0
  have hm' : m = H * vd := by rw [hm, ← hvd, Nat.mul_assoc]
  have bm : m ≤ 1073741824 := by rw [hm']; exact Nat.mul_le_mul hH bvd
  have i1 : (OH : Int) * (OW : Int) = (P : Nat) := by rw [← hP]; push_cast; rfl
  have i2 : (P : Int) * (d : Int) = (M : Nat) := by rw [← hM, ← hP]; push_cast; rfl
  have i3 : (V : Int) * (d : Int) = (vd : Nat) := by rw [← hvd]; push_cast; rfl
  have w1 : IntKind.i64.wrap (P : Int) = (P : Int) := by rw [IntKind.wrap_i64]; omega
  have w2 : IntKind.i64.wrap (M : Int) = (M : Int) := by rw [IntKind.wrap_i64]; omega
  have w3 : IntKind.i64.wrap (vd : Int) = (vd : Int) := by rw [IntKind.wrap_i64]; omega
  have w4 : IntKind.i64.wrap (d : Int) = (d : Int) := by rw [IntKind.wrap_i64]; omega
  have k1 : (0 : Int) ≤ (M : Int) := by omega
  have k2 : (0 : Int) ≤ (vd : Int) := by omega
  have HHM := hid1 hm'
  have HP := hid1 hP
  have HMM := hid1 hM
  have HVD := hid1 hvd
  have RD := hid1 rd
  clear rd hm hm' hP hM hvd
  go_enter Try.func22, Try.ntmps22
  obtain ⟨i0, hi, hz0, hz1, hz2⟩ := info_parts info_u64
  have hmk : ∀ w, (Instr.makeSlice 33 (.int .i64 (M : Int)) (.int .i64 (M : Int))).run Try.prog w = .ok (.slice (some ⟨w.heap.size, 0, none⟩) M M) (w.alloc (.cells (madeCells #[.int .u64 0] M) 47)) := fun w => run_make_row 33 47 i0 (.int .u64 0) und_u64s hi hz0 hz1 rfl .i64 .i64 M (by rw [hz2]; omega) (by omega) w
  have hmv : ∀ w, (Instr.makeSlice 33 (.int .i64 (vd : Int)) (.int .i64 (vd : Int))).run Try.prog w = .ok (.slice (some ⟨w.heap.size, 0, none⟩) vd vd) (w.alloc (.cells (madeCells #[.int .u64 0] vd) 47)) := fun w => run_make_row 33 47 i0 (.int .u64 0) und_u64s hi hz0 hz1 rfl .i64 .i64 vd (by rw [hz2]; omega) (by omega) w
  clear hi hz0 hz1 hz2
  have HST := hid1 (walk_start w H V C (some ⟨g, o, none⟩) m cap R S sy sx OH OW K M vd)
  have hR1 := hR.1
  have hS1 := hS.1
  go_wp2_with fail
  obtain ⟨W, hW, z0, B0, q0, q1, q2, q3, q4⟩ := HST.out
  try rw [hW]
  clear hW
  go_loopw [12, 41] (fun pv i wr => ∃ (y n : Nat) (fq : Nat → Value), y ≤ OH ∧ i = .int .i64 y ∧ y * OW * d = n ∧ Pv pv (w.heap.size + 3) M n ∧ Pm wr w.heap.size H V C OH OW K g o m cap R S sy sx ∧ wr.rowIs (w.heap.size + 3) 47 M (gz X n) ∧ wr.rowIs (w.heap.size + 4) 47 vd fq ∧ Below w.heap.size w wr) (fun _ i _ => OH - (intOf i).toNat)
  case atStart => exact ⟨0, 0, _, Nat.zero_le _, rfl, by simp, ⟨0, rfl, fun _ => rfl⟩, ⟨q0, q1, q2⟩, q3.congr fun j _ => (gz_zero X j).symm, q4, B0⟩
  case round =>
    clear q0 q1 q2 q3 q4 B0 z0
    obtain ⟨y, n, fq, hy, rfl, hn, hpv, pm, r3, r4, B0⟩ := hrel
    by_cases hlt2 : y < OH
    · obtain ⟨u, hu⟩ : ∃ u, y * sy = u := ⟨_, rfl⟩
      have fy' := fy y hlt2
      rw [hu] at fy'
      obtain ⟨E, hE⟩ : ∃ E, u + R = E := ⟨_, rfl⟩
      have iu : (y : Int) * (sy : Int) = (u : Nat) := by rw [← hu]; push_cast; rfl
      have wu : IntKind.i64.wrap (u : Int) = (u : Int) := by rw [IntKind.wrap_i64]; omega
      have iy : (y : Int) < (OH : Int) := by omega
      have HSE := hid1 (seen_any u R H E hE (by omega) (by omega) (by omega))
      have hmE : (u + (R - 1) + 1) * vd ≤ m := by rw [HHM.out]; exact Nat.mul_le_mul_right _ (by omega)
      have HJR := hid1 (fun f W r rd => joinRuns_any al F HJ (w.heap.size + 4) vd 0 vd vd g o m cap N u (R - 1) E (by omega) f W bvd0 (by omega) (by omega) hmE bm hmc (by omega) (by omega) (by omega) r rd)
      have c0 := cf0 pm.cu
      have c1 := cf1 pm.cu
      have c3 := cf3 pm.cu
      have s1 := hf1 pm.sh
      obtain ⟨n0, n1, n2, n3, -⟩ := pm.wi
      simp only [Nat.zero_add] at n1 n2 n3
      have HPM := hid1 pm
      have HR3 := hid1 r3
      have HR4 := hid1 r4
      have HB0 := hid1 B0
      have HPV := hid1 hpv
      have HN := hid1 hn
      have HFY := hid1 hE
      have HU := hid1 hu
      clear pm r3 r4 B0 hpv hn hE hu hmE
      go_wp2_with fail
      refine (HSE.out _).mono ?_
      rintro e w5 ⟨rfl, rfl⟩
      go_wp2_with fail
      refine (HJR.out fq w5 HR4.out (RD.out.below HB0.out)).mono ?_
      rintro e w6 ⟨rfl, r4, bt⟩
      have r4' : w6.rowIs (w.heap.size + 4) 47 vd (wf (jr al N vd u (R - 1))) := r4.congr fun j hj => sgU_all hj
      have pm := HPM.out.but bt (by omega)
      have r3 := bt.row (by omega) HR3.out
      have zB := HB0.out.size
      have B1 := bt.below (by omega) zB HB0.out
      have hRl := jr_lt al N vd u (R - 1)
      have HJP := hid1 (fun x => show jp al N V d R S sy sx y x = jr al (jr al N vd u (R - 1)) d (x * sx) (S - 1) by unfold jp; rw [HVD.out, HU.out])
      generalize jr al N vd u (R - 1) = RR at *
      have s1 := hf1 pm.sh
      clear r4 bt HR3 HR4 HB0 HPM HSE HJR c0 c1 c3 n0 n1 n2 n3 zB iu wu HU
      have HPM := hid1 pm
      have HR3 := hid1 r3
      have HR4 := hid1 r4'
      have HB0 := hid1 B1
      clear pm r3 r4' B1
      go_wp2_with fail
      go_loopw [12, 66] (fun pv i wr => ∃ (x n : Nat), x ≤ OW ∧ i = .int .i64 x ∧ (y * OW + x) * d = n ∧ Pv pv (w.heap.size + 3) M n ∧ Pm wr w.heap.size H V C OH OW K g o m cap R S sy sx ∧ wr.rowIs (w.heap.size + 3) 47 M (gz X n) ∧ wr.rowIs (w.heap.size + 4) 47 vd (wf RR) ∧ Below w.heap.size w wr) (fun _ i _ => OW - (intOf i).toNat)
      case atStart => exact ⟨0, n, Nat.zero_le _, rfl, HN.out, HPV.out, HPM.out, HR3.out, HR4.out, HB0.out⟩
      case round =>
        clear HPM HR3 HR4 HB0 HPV HN s1 n hy
        obtain ⟨x, n, hx, rfl, hn, hpv, pm, r3, r4, B0⟩ := hrel
        by_cases hlt3 : x < OW
        · obtain ⟨u2, hu⟩ : ∃ u, x * sx = u := ⟨_, rfl⟩
          have fx' := fx x hlt3
          rw [hu] at fx'
          obtain ⟨E2, hE⟩ : ∃ E, u2 + S = E := ⟨_, rfl⟩
          have iu : (x : Int) * (sx : Int) = (u2 : Nat) := by rw [← hu]; push_cast; rfl
          have wu : IntKind.i64.wrap (u2 : Int) = (u2 : Int) := by rw [IntKind.wrap_i64]; omega
          have ix : (x : Int) < (OW : Int) := by omega
          have hp : y * OW + x < OH * OW := by
            have : (y + 1) * OW ≤ OH * OW := Nat.mul_le_mul_right _ hlt2
            rw [Nat.succ_mul] at this; omega
          have hnM : n + d ≤ M := by
            rw [← hn, ← HMM.out, ← Nat.succ_mul]; exact Nat.mul_le_mul_right _ hp
          obtain ⟨q, rfl, hq⟩ := hpv
          obtain rfl : n = q := (hq (by omega)).symm
          have HSE := hid1 (seen_any u2 S V E2 hE (by omega) (by omega) (by omega))
          have hmE : (u2 + (S - 1) + 1) * d ≤ vd := by rw [← HVD.out]; exact Nat.mul_le_mul_right _ (by omega)
          have HJR := hid1 (fun W r rd => joinRuns_any al F HJ (w.heap.size + 3) M n d (M - n) (w.heap.size + 4) 0 vd vd RR u2 (S - 1) E2 (by omega) (gz X n) W hd0 hnM bM hmE (by omega) (Nat.le_refl _) (by omega) (by omega) (by omega) r rd)
          have hval : pl X d (y * OW + x) = jr al RR d u2 (S - 1) := by
            rw [hPOS.out _ hp, (at_div hlt3).1, (at_div hlt3).2, HJP.out, hu]
          have HNX := hid1 (fun j => gz_next (n' := n + d) hn rfl hval j)
          have c0 := cf0 pm.cu
          have c1 := cf1 pm.cu
          obtain ⟨n0, n1, n2, n3, -⟩ := pm.wi
          simp only [Nat.zero_add] at n1 n2 n3
          have HPM := hid1 pm
          have HR3 := hid1 r3
          have HR4 := hid1 r4
          have HB0 := hid1 B0
          have HN := hid1 hn
          clear pm r3 r4 B0 hn hE hu hmE hval hp hq
          have j1 : (0 : Int) ≤ (d : Int) := by omega
          have j2 : (d : Int) ≤ ((M - n : Nat) : Int) := by omega
          have j3 : d ≤ M - n := by omega
          go_wp2_with fail
          refine (HSE.out _).mono ?_
          rintro e w7 ⟨rfl, rfl⟩
          go_wp2_with fail
          refine (HJR.out w7 HR3.out (Wr.row HR4.out hRl)).mono ?_
          rintro e w8 ⟨rfl, r3, bt⟩
          have pm := HPM.out.but bt (by omega)
          have r4 := bt.row (by omega) HR4.out
          have B1 := bt.below (by omega) HB0.out.size HB0.out
          have r3' := r3.congr fun j _ => HNX.out j
          have HN' : (y * OW + (x + 1)) * d = n + d := by rw [← HN.out, ← Nat.succ_mul]; rfl
          clear r3 bt HR3 HR4 HB0 HPM HSE HJR c0 c1 n0 n1 n2 n3 iu wu
          go_wp2_with fail
          refine ⟨⟨x + 1, n + d, by omega, by go_num, HN', ?_, pm, r3', r4, B1⟩, by simp [intOf]; omega⟩
          by_cases e : M - n = d
          · rw [if_pos e]; exact ⟨n, by rw [Nat.sub_sub], fun h => by omega⟩
          · rw [if_neg e]; exact ⟨n + d, by rw [Nat.sub_sub], fun _ => rfl⟩
        · obtain rfl : x = OW := by omega
          have HN' : (y + 1) * x * d = n := by rw [Nat.succ_mul]; exact hn
          go_wp2_with fail
          exact ⟨⟨y + 1, n, _, by omega, by go_num, HN', hpv, pm, r3, r4, B0⟩, by simp [intOf]; omega⟩
    · obtain rfl : y = OH := by omega
      have hnM : n = M := by rw [← hn, HMM.out]
      subst hnM
      go_wp2_with fail
      go_ret
      exact ⟨_, rfl, by omega, r3.congr fun j hj => by unfold gz; rw [if_pos hj], B0⟩
end Go.Proofs.Ytmbhapegdbajpaa
