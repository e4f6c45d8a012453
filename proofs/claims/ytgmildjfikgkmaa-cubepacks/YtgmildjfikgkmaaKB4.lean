/- THE DOCUMENT'S OWN Pack, walked. -/
import Derived.Test.YtgmildjfikgkmaaKB3
namespace Go.Proofs.Ytgmildjfikgkmaa
open Go.RowKit Go.Shelf

theorem rpack_start (w : World) (h v c : Int) : ∃ W, (w.alloc (.cells #[.int .i64 h, .int .i64 v, .int .i64 c] 31)).alloc (.cells #[.int .i64 0, .int .i64 0, .int .i64 0, .slice none 0 0] 33) = W ∧
    W.heap.size = w.heap.size + 2 ∧ Below w.heap.size w W ∧ W.rowIs w.heap.size 31 3 (hf h v c) ∧ W.rowIs (w.heap.size + 1) 33 4 (cf 0 0 0 none 0 0) := by
  refine ⟨_, rfl, by simp, bl_alloc (bl_alloc (Below.refl _ _) _) _, (hf_new w _ _ _ _).alloc _, ?_⟩
  have := cu_new (w.alloc (.cells #[.int .i64 h, .int .i64 v, .int .i64 c] 31)) 0 0 0 none 0 0 33
  rwa [World.size_alloc] at this
set_option maxHeartbeats 1600000 in
set_option maxRecDepth 100000 in
theorem rpack_bad (h v c : Int) (ao : Option Addr) (n cap : Nat) (w : World) (E : Int) (hE : E = if Sg.chk h v c = 0 then 32 else Sg.chk h v c) (hn : Sg.chk h v c = 0 → (n : Int) ≠ Sg.elN h v c) :
    Calls Try.prog 18 #[Sg.shp h v c, .slice ao n cap] w fun e w' => e = .returned (.tuple #[cuv 0 0 0 none 0 0, .int .i64 E]) ∧ Below w.heap.size w w' := by
  have HC := hid1 (Sg.relems_any h v c)
  obtain ⟨W, eW, z0, B0, q0, q2⟩ := rpack_start w h v c
  have e0 := hf0 q0
  have e1 := hf1 q0
  have e2 := hf2 q0
  go_enter Try.func18, Try.ntmps18
  go_wp2_with fail
  refine (HC.out W).mono ?_
  rintro e w1 ⟨rfl, hb⟩
  clear e0 e1 e2
  replace q2 := keepr hb q2
  have d0 := cf0 q2
  have d1 := cf1 q2
  have d2 := cf2 q2
  have d3 := cf3 q2
  have f0 := q2.frozen 0
  have f1 := q2.frozen 1
  have f2 := q2.frozen 2
  have f3 := q2.frozen 3
  have B1 := bl_step B0 hb
  have fin : ∀ x y z u, Below w.heap.size w ((((w1.setCell ⟨w.heap.size + 1, 0, none⟩ x).setCell ⟨w.heap.size + 1, 1, none⟩ y).setCell ⟨w.heap.size + 1, 2, none⟩ z).setCell ⟨w.heap.size + 1, 3, none⟩ u) := fun x y z u => bl_set (bl_set (bl_set (bl_set B1 (by omega) _) (by omega) _) (by omega) _) (by omega) _
  clear q0 q2 hb B0 HC eW B1
  by_cases k : Sg.chk h v c = 0
  · rw [if_pos k] at hE
    subst hE
    have hn' := hn k
    rw [k]
    generalize Sg.elN h v c = u at *
    clear hn k
    go_wp2_with fail
    exact bodyPost_ret (v := .tuple #[cuv 0 0 0 none 0 0, .int .i64 32]) (by simp [results, Try.results18, go_sem, d0, d1, d2, d3]) rfl ⟨rfl, fin _ _ _ _⟩
  · rw [if_neg k] at hE
    rw [← hE]
    rw [← hE] at k
    generalize Sg.elN h v c = u at *
    clear hn hE
    go_wp2_with fail
    exact bodyPost_ret (v := .tuple #[cuv 0 0 0 none 0 0, .int .i64 E]) (by simp [results, Try.results18, go_sem, d0, d1, d2, d3]) rfl ⟨rfl, fin _ _ _ _⟩
/-- The memory that Pack goes through. -/
def Pm (w W : World) (H V C bC G M N : Nat) : Prop := W.rowIs w.heap.size 31 3 (hf H V C) ∧ W.rowIs (w.heap.size + 1) 33 4 (cf 0 0 0 none 0 0) ∧ W.rowIs bC 33 4 (cf H V C (some ⟨G, 0, none⟩) M M) ∧ W.rowIs G 75 M (wf N) ∧ Below w.heap.size w W
theorem Pm.put {w W X : World} {H V C bC G M N N' : Nat} (h : Pm w W H V C bC G M N) (g1 : w.heap.size + 1 < G) (g2 : bC ≠ G) (hr : X.rowIs G 75 M (wf N')) (hb : But G W X) : Pm w X H V C bC G M N' :=
  ⟨hb.row (by omega) h.1, hb.row (by omega) h.2.1, hb.row g2 h.2.2.1, hr, hb.below (by omega) h.2.2.2.2.size h.2.2.2.2⟩
set_option maxHeartbeats 3200000 in
set_option maxRecDepth 100000 in
theorem rpack_ok (H V C : Nat) (l : List Int) (T : Nat) (hl : l.length = T) (ao : Option Addr) (cap : Nat) (w : World) (hH : 1 ≤ H ∧ H ≤ 4096) (hV : 1 ≤ V ∧ V ≤ 4096) (hC : 1 ≤ C ∧ C ≤ 4096) (hT : T = H * V * C) (hT2 : T ≤ 16777216) (k : Sg.chk H V C = 0) (M : Nat) (hM : H * V * nw C = M)
    (rd : R8 w ao l) :
    Calls Try.prog 18 #[Sg.shp H V C, .slice ao T cap] w fun e w' => ∃ G, e = .returned (.tuple #[cuv H V C (some ⟨G, 0, none⟩) M M, .int .i64 0]) ∧ w.heap.size ≤ G ∧ w'.rowIs G 75 M (wf (js (64 * nw C) (sp l C) (H * V))) ∧ Below w.heap.size w w' := by
  have HC := hid1 (Sg.relems_any H V C)
  rw [k, elN_nat k, ← hT] at HC
  have hbd := (wo_bd hH.2 hV.2 hC.2).2
  rw [hM] at hbd
  have HE := hid1 (fun W => rempty_any H V C W k M hM hbd)
  have HPut := hid1 (fun G N y x q W hy hx hq hi row => put_any H V C G M N y x q W hV.2 hC.2 hy hx hq hi hbd row)
  have HI : ∀ y x, y < H → x < V → (y * V + x) * nw C + nw C ≤ M := fun y x hy hx => by
    have h1 : (y + 1) * V ≤ H * V := Nat.mul_le_mul_right _ hy
    rw [Nat.succ_mul] at h1
    rw [← hM, ← Nat.succ_mul]
    exact Nat.mul_le_mul_right _ (by omega)
  have HJ : ∀ y x q, y < H → x < V → q < C → (y * V + x) * C + q < T := fun y x q hy hx hq => by
    have h1 : (y + 1) * V ≤ H * V := Nat.mul_le_mul_right _ hy
    rw [Nat.succ_mul] at h1
    have h2 : (y * V + x + 1) * C ≤ H * V * C := Nat.mul_le_mul_right _ (by omega)
    rw [Nat.succ_mul] at h2
    omega
  have HQ : Hid (∀ y x q, q < C → qn l C ((y * V + x) * C + q + 1) = qn l C ((y * V + x) * C + q) ||| (if 0 < ia l ((y * V + x) * C + q) then 2 ^ bp V C y x q else 0)) := hid1 fun y x q hq => by
    show qn l C _ ||| _ = _
    have e1 : ((y * V + x) * C + q) / C = y * V + x := by rw [Nat.mul_comm, Nat.mul_add_div (by omega), Nat.div_eq_of_lt hq, Nat.add_zero]
    have e2 : ((y * V + x) * C + q) % C = q := by rw [Nat.mul_comm, Nat.mul_add_mod, Nat.mod_eq_of_lt hq]
    rw [e1, e2]; rfl
  have HALL := hid1 (qn_all l (C := C) (n := H * V) hC.1)
  rw [← hT] at HALL
  have HTT := hid1 hT
  have RD := hid1 rd
  have HLL := hid1 hl
  clear hT k hM hl rd
  obtain ⟨FN, hFN⟩ : ∃ FN, js (64 * nw C) (sp l C) (H * V) = FN := ⟨_, rfl⟩
  rw [hFN] at HALL ⊢
  clear hFN
  obtain ⟨W, eW, z0, B0, q0, q2⟩ := rpack_start w H V C
  have e0 := hf0 q0
  have e1 := hf1 q0
  have e2 := hf2 q0
  go_enter Try.func18, Try.ntmps18
  go_wp2_with fail
  refine (HC.out W).mono ?_
  rintro e w1 ⟨rfl, hb⟩
  clear e0 e1 e2 eW
  replace q0 := keepr hb q0
  replace q2 := keepr hb q2
  have B1 := bl_step B0 hb
  have z1 := hb.size
  clear hb B0 HC
  have e0 := hf0 q0
  have e1 := hf1 q0
  have e2 := hf2 q0
  go_wp2_with fail
  refine (HE.out w1).mono ?_
  rintro e w2 ⟨G, rfl, hG, row, hb⟩
  replace q0 := keepr hb q0
  replace q2 := keepr hb q2
  have B2 := bl_step B1 hb
  have lG := row.lt
  clear hb B1 HE e0 e1 e2
  have PM : Pm w (w2.alloc (.cells #[.int .i64 H, .int .i64 V, .int .i64 C, .slice (some ⟨G, 0, none⟩) M M] 33)) H V C w2.heap.size G M (qn l C 0) := ⟨q0.alloc _, q2.alloc _, cu_new _ _ _ _ _ _ _ _, row.alloc _, bl_alloc B2 _⟩
  obtain ⟨bC, ebC⟩ : ∃ bC, w2.heap.size = bC := ⟨_, rfl⟩
  have hGb : w.heap.size + 1 < G := by omega
  have hbG : bC ≠ G := by omega
  have HPM := hid1 PM
  rw [ebC] at HPM
  clear PM q0 q2 B2 row
  go_wp2_with fail
  go_loopw [9, 10] (fun s9 s10 wr => ∃ y i : Nat, y ≤ H ∧ i = y * V * C ∧ s10 = .int .i64 y ∧ s9 = .int .i64 i ∧ Pm w wr H V C bC G M (qn l C i)) (fun _ s10 _ => H - (intOf s10).toNat)
  case atStart => exact ⟨0, 0, Nat.zero_le _, by simp, rfl, rfl, HPM.out⟩
  case round =>
    clear HPM
    obtain ⟨y, i, hy, hi, rfl, rfl, PM⟩ := hrel
    have e0 := hf0 PM.1
    by_cases hyl : y < H
    · have iy : (y : Int) < (H : Int) := by omega
      have HP1 := hid1 PM
      have HI1 := hid1 hi
      clear PM hi
      go_wp2_with fail
      go_loopw [9, 11] (fun s9 s11 wr => ∃ x i : Nat, x ≤ V ∧ i = (y * V + x) * C ∧ s11 = .int .i64 x ∧ s9 = .int .i64 i ∧ Pm w wr H V C bC G M (qn l C i)) (fun _ s11 _ => V - (intOf s11).toNat)
      case atStart => exact ⟨0, i, Nat.zero_le _, by rw [HI1.out]; rfl, rfl, rfl, HP1.out⟩
      case round =>
        clear HP1 HI1 e0
        obtain ⟨x, i, hx, hi, rfl, rfl, PM⟩ := hrel
        have e1 := hf1 PM.1
        by_cases hxl : x < V
        · have ix : (x : Int) < (V : Int) := by omega
          have HP1 := hid1 PM
          have HI1 := hid1 hi
          clear PM hi
          go_wp2_with fail
          go_loopw [9, 12] (fun s9 s12 wr => ∃ q i : Nat, q ≤ C ∧ i = (y * V + x) * C + q ∧ s12 = .int .i64 q ∧ s9 = .int .i64 i ∧ Pm w wr H V C bC G M (qn l C i)) (fun _ s12 _ => C - (intOf s12).toNat)
          case atStart => exact ⟨0, i, Nat.zero_le _, by rw [HI1.out]; rfl, rfl, rfl, HP1.out⟩
          case round =>
            clear HP1 HI1 e1
            obtain ⟨q, i, hq, hi, rfl, rfl, PM⟩ := hrel
            have e2 := hf2 PM.1
            by_cases hql : q < C
            · have iq : (q : Int) < (C : Int) := by omega
              have hiT : i < T := by rw [hi]; exact HJ y x q hyl hxl hql
              have iiT : (i : Int) < (T : Int) := by omega
              have ii0 : (0 : Int) ≤ (i : Int) := by omega
              obtain ⟨ga, oa, rfl, c8⟩ := (RD.out.below PM.2.2.2.2) i (by rw [HLL.out]; exact hiT)
              have HQ1 := hid1 (HQ.out y x q hql)
              rw [← hi] at HQ1
              have d0 := cf0 PM.2.2.1
              have d1 := cf1 PM.2.2.1
              have d2 := cf2 PM.2.2.1
              have d3 := cf3 PM.2.2.1
              have HP1 := hid1 PM
              have HI1 := hid1 hi
              have rw1 : IntKind.i64.wrap ((i : Int) + 1) = ((i + 1 : Nat) : Int) := by rw [IntKind.wrap_i64]; omega
              clear PM hi
              by_cases hp : 0 < ia l i
              · have HQ2 := hid1 HQ1.out
                rw [if_pos hp] at HQ2
                go_wp2_with fail
                refine (HPut.out G (qn l C i) y x q _ (by omega) (by omega) hql (HI y x hyl hxl) HP1.out.2.2.2.1).mono ?_
                rintro e w5 ⟨rfl, hrow, hbut⟩
                have PM2 := hid1 (HP1.out.put hGb hbG (by rw [← HQ2.out] at hrow; exact hrow) hbut)
                clear hrow hbut d0 d1 d2 d3 e2 c8
                go_wp2_with fail
                exact ⟨⟨q + 1, i + 1, by omega, by have := HI1.out; omega, by go_num, by go_num, PM2.out⟩, by simp [intOf]; omega⟩
              · have HQ2 := hid1 HQ1.out
                rw [if_neg hp, Nat.or_zero] at HQ2
                go_wp2_with fail
                exact ⟨⟨q + 1, i + 1, by omega, by have := HI1.out; omega, by go_num, by go_num, by rw [HQ2.out]; exact HP1.out⟩, by simp [intOf]; omega⟩
            · have hqC : q = C := by omega
              subst hqC
              have HP1 := hid1 PM
              have HI1 := hid1 hi
              clear PM hi
              go_wp2_with fail
              exact ⟨⟨x + 1, i, by omega, by rw [HI1.out, ← Nat.add_assoc, Nat.succ_mul], by go_num, rfl, HP1.out⟩, by simp [intOf]; omega⟩
        · have hxV : x = V := by omega
          subst hxV
          have HP1 := hid1 PM
          have HI1 := hid1 hi
          clear PM hi
          go_wp2_with fail
          exact ⟨⟨y + 1, i, by omega, by rw [HI1.out, Nat.succ_mul], by go_num, rfl, HP1.out⟩, by simp [intOf]; omega⟩
    · have hyH : y = H := by omega
      subst hyH
      have d0 := cf0 PM.2.2.1
      have d1 := cf1 PM.2.2.1
      have d2 := cf2 PM.2.2.1
      have d3 := cf3 PM.2.2.1
      have s0 := cf0 PM.2.1
      have s1 := cf1 PM.2.1
      have s2 := cf2 PM.2.1
      have s3 := cf3 PM.2.1
      have f0 := PM.2.1.frozen 0
      have f1 := PM.2.1.frozen 1
      have f2 := PM.2.1.frozen 2
      have f3 := PM.2.1.frozen 3
      have HP1 := hid1 PM
      have HI1 := hid1 hi
      clear PM hi
      clear HPut HI HJ HQ
      go_wp2_with fail
      obtain ⟨_, P2, _, P4, P5⟩ := HP1.out
      have hc := cf_set P2 y V C (some ⟨G, 0, none⟩) M M
      have m0 := cf0 hc
      have m1 := cf1 hc
      have m2 := cf2 hc
      have m3 := cf3 hc
      refine bodyPost_ret (v := .tuple #[cuv y V C (some ⟨G, 0, none⟩) M M, .int .i64 0]) (by simp [results, Try.results18, go_sem, m0, m1, m2, m3]) rfl ⟨G, rfl, by omega, ?_, bl_set (bl_set (bl_set (bl_set P5 (by omega) _) (by omega) _) (by omega) _) (by omega) _⟩
      have hfin : qn l C i = FN := by rw [← HALL.out, HTT.out, HI1.out]
      rw [hfin] at P4
      exact (((P4.setOther (a := ⟨w.heap.size + 1, 0, none⟩) (by show G ≠ w.heap.size + 1; omega) _).setOther (a := ⟨w.heap.size + 1, 1, none⟩) (by show G ≠ w.heap.size + 1; omega) _).setOther (a := ⟨w.heap.size + 1, 2, none⟩) (by show G ≠ w.heap.size + 1; omega) _).setOther (a := ⟨w.heap.size + 1, 3, none⟩) (by show G ≠ w.heap.size + 1; omega) _
end Go.Proofs.Ytgmildjfikgkmaa
