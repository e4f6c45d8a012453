/- THE DOCUMENT'S OWN Unpack. -/
import Derived.Test.YtgmildjfikgkmaaKC2
import Derived.Test.YtgmildjfikgkmaaBW12
import Derived.Maps.AppendAt
namespace Go.Proofs.Ytgmildjfikgkmaa
open Go.RowKit Go.Shelf

/-- The first i values. -/
def ul (N C i : Nat) : List Int := (List.range i).map (uv N C)
theorem ul_len (N C i : Nat) : (ul N C i).length = i := by simp [ul]
theorem ul_snoc (N C i : Nat) : ul N C (i + 1) = ul N C i ++ [uv N C i] := by simp [ul, List.range_succ]
theorem ul_at {N C i j : Nat} (h : j < i) : ia (ul N C i) j = uv N C j := by
  unfold ia ul
  rw [List.getD_eq_getElem?_getD, List.getElem?_map, List.getElem?_range h]; rfl
theorem uv_bit {N V C y x q : Nat} (hq : q < C) : uv N C ((y * V + x) * C + q) = if N.testBit (bp V C y x q) then 1 else -1 := by
  have e1 : ((y * V + x) * C + q) / C = y * V + x := by rw [Nat.mul_comm, Nat.mul_add_div (by omega), Nat.div_eq_of_lt hq, Nat.add_zero]
  have e2 : ((y * V + x) * C + q) % C = q := by rw [Nat.mul_comm, Nat.mul_add_mod, Nat.mod_eq_of_lt hq]
  unfold uv sg
  rw [e1, e2, pl_bit]
  have h1 : q < 64 * nw C := Nat.lt_of_lt_of_le hq (nw_le C)
  have h2 : 64 * ((y * V + x) * nw C) + q = bp V C y x q := rfl
  simp [h1, h2]
theorem own_ge {w : World} {base e n : Nat} {v : Value} {xs : List Value} (h : w.ownsRow base e 1 v n xs) : ∀ k, v.ownBlock = some k → base ≤ k := by
  intro k hk
  rcases h.2 with ⟨rfl, _⟩ | ⟨g, cap, cur, rfl, hg, _⟩
  · simp [Value.ownBlock] at hk
  · simp [Value.ownBlock] at hk; omega
theorem own_keepK {w w' : World} {base e n : Nat} {v : Value} {xs : List Value} (h : w.ownsRow base e 1 v n xs) (hb : Below w.heap.size w w') : w'.ownsRow base e 1 v n xs := by
  refine ⟨h.1, ?_⟩
  rcases h.2 with q | ⟨g, cap, cur, h1, h2, h3, h4⟩
  · exact .inl q
  · exact .inr ⟨g, cap, cur, h1, h2, (hb.block g (Array.getElem?_eq_some_iff.1 h3).1).trans h3, h4⟩
set_option maxHeartbeats 800000 in
set_option maxRecDepth 100000 in
theorem runpack_bad (h v c : Int) (ao : Option Addr) (m cap N : Nat) (w : World) (rd : Wr w ao m N) (k : cuk h v c m N ≠ 0) :
    Calls Try.prog 55 #[cuv h v c ao m cap] w fun e w' => e = .returned (.tuple #[.slice none 0 0, .int .i64 (cuk h v c m N)]) ∧ Below w.heap.size w w' := by
  have HC := hid1 (fun W r => rccheck_any h v c ao m cap N W r)
  generalize cuk h v c m N = q at *
  go_enter Try.func55, Try.ntmps55
  go_wp2_with fail
  refine gen_calls (fun W => Below w.heap.size w W) (bl_alloc (Below.refl _ _) _) ?_
  rintro W B0
  refine (HC.out W (rd.below B0)).mono ?_
  rintro e w1 ⟨rfl, hb⟩
  go_wp2_with fail
  go_ret2
  exact ⟨rfl, bl_step B0 hb⟩
/-- The memory that Unpack goes through: the box, the list so far. -/
def Um (w W : World) (H V C g o m cap N i : Nat) (u : Value) : Prop := W.rowIs w.heap.size 33 4 (cf H V C (some ⟨g, o, none⟩) m cap) ∧ W.ownsRow (w.heap.size + 1) 52 1 u i (i8s (ul N C i)) ∧ Below w.heap.size w W
theorem Um.form {w W : World} {H V C g o m cap N i : Nat} {u : Value} (h : Um w W H V C g o m cap N i u) : ∃ ao cp, u = .slice ao i cp := by
  rcases h.2.1.2 with ⟨rfl, e⟩ | ⟨q, cp, _, rfl, _⟩
  · subst e; exact ⟨_, _, rfl⟩
  · exact ⟨_, _, rfl⟩
theorem Um.next {w W X : World} {H V C g o m cap N i : Nat} {u v' : Value} {val : Int} {ob : Obj} (hr : W.rowIs w.heap.size 33 4 (cf H V C (some ⟨g, o, none⟩) m cap)) (ho : W.ownsRow (w.heap.size + 1) 52 1 u i (i8s (ul N C i))) (hb : Below w.heap.size w W)
    (k1 : X.ownsRow (w.heap.size + 1) 52 1 v' (i + 1) (i8s (ul N C i) ++ [.int .i8 val])) (k2 : (W.alloc ob).grownBy X u.ownBlock) (hv : uv N C i = val) : Um w X H V C g o m cap N (i + 1) v' := by
  refine ⟨(hr.alloc ob).of_block (k2.block _ (hr.alloc ob).lt fun e => ?_), ?_, (bl_alloc hb ob).grown k2 (bl_alloc hb ob).size fun j e => ?_⟩
  · have := own_ge ho _ e.symm; omega
  · rw [ul_snoc, i8s_snoc, hv]; exact k1
  · have := own_ge ho _ e; omega
set_option maxHeartbeats 3200000 in
set_option maxRecDepth 100000 in
theorem runpack_ok (H V C g o m cap N T : Nat) (w : World) (hH : 1 ≤ H ∧ H ≤ 4096) (hV : 1 ≤ V ∧ V ≤ 4096) (hC : 1 ≤ C ∧ C ≤ 4096) (hT : T = H * V * C) (hT2 : T ≤ 16777216) (k : cuk H V C m N = 0) (hm : m = H * V * nw C) (rd : Wr w (some ⟨g, o, none⟩) m N) :
    Calls Try.prog 55 #[cuv H V C (some ⟨g, o, none⟩) m cap] w fun e w' => ∃ ao cp, e = .returned (.tuple #[.slice ao T cp, .int .i64 0]) ∧ w'.ownsRow (w.heap.size + 1) 52 1 (.slice ao T cp) T (i8s (ul N C T)) ∧ Below w.heap.size w w' := by
  obtain ⟨i0, hi0, hz0, hz1, hz2⟩ := info_parts info_i8k
  have HC := hid1 (fun W r => rccheck_any H V C (some ⟨g, o, none⟩) m cap N W r)
  rw [k] at HC
  have hbd := (wo_bd hH.2 hV.2 hC.2).2
  rw [← hm] at hbd
  have HBit := hid1 (fun y x q W hy hx hq hi r => bit_any H V C g o m cap N y x q W hV.2 hC.2 hy hx hq hi hbd r)
  have HI : ∀ y x, y < H → x < V → (y * V + x) * nw C + nw C ≤ m := fun y x hy hx => by
    have h1 : (y + 1) * V ≤ H * V := Nat.mul_le_mul_right _ hy
    rw [Nat.succ_mul] at h1
    rw [hm, ← Nat.succ_mul]
    exact Nat.mul_le_mul_right _ (by omega)
  have HJ : ∀ y x q, y < H → x < V → q < C → (y * V + x) * C + q < T := fun y x q hy hx hq => by
    have h1 : (y + 1) * V ≤ H * V := Nat.mul_le_mul_right _ hy
    rw [Nat.succ_mul] at h1
    have h2 : (y * V + x + 1) * C ≤ H * V * C := Nat.mul_le_mul_right _ (by omega)
    rw [Nat.succ_mul] at h2
    omega
  have HU := hid1 (fun y x q hq => uv_bit (N := N) (V := V) (C := C) (y := y) (x := x) (q := q) hq)
  have HTT := hid1 hT
  have RD := hid1 rd
  clear hT k hm rd
  go_enter Try.func55, Try.ntmps55
  go_wp2_with fail
  refine gen_calls (fun W => Below w.heap.size w W ∧ W.rowIs w.heap.size 33 4 (cf H V C (some ⟨g, o, none⟩) m cap)) ⟨bl_alloc (Below.refl _ _) _, cu_new w _ _ _ _ _ _ _⟩ ?_
  rintro W ⟨B0, r0⟩
  refine (HC.out W (RD.out.below B0)).mono ?_
  rintro e w1 ⟨rfl, hb⟩
  have HPM : Hid (Um w w1 H V C g o m cap N 0 (.slice none 0 0)) := hid1 ⟨keepr hb r0, World.ownsRow_nil _ _ _ _, bl_step B0 hb⟩
  clear hb B0 r0 HC
  go_wp2_with fail
  go_loopw [5, 6] (fun s5 s6 wr => ∃ y i : Nat, y ≤ H ∧ i = y * V * C ∧ s6 = .int .i64 y ∧ Um w wr H V C g o m cap N i s5) (fun _ s6 _ => H - (intOf s6).toNat)
  case atStart => exact ⟨0, 0, Nat.zero_le _, by simp, rfl, HPM.out⟩
  case round =>
    clear HPM
    obtain ⟨y, i, hy, hi, rfl, PM⟩ := hrel
    obtain ⟨la, lc, rfl⟩ := PM.form
    have e0 := cf0 PM.1
    by_cases hyl : y < H
    · have iy : (y : Int) < (H : Int) := by omega
      have HP1 := hid1 PM
      have HI1 := hid1 hi
      clear PM hi
      go_wp2_with fail
      go_loopw [5, 7] (fun s5 s7 wr => ∃ x i : Nat, x ≤ V ∧ i = (y * V + x) * C ∧ s7 = .int .i64 x ∧ Um w wr H V C g o m cap N i s5) (fun _ s7 _ => V - (intOf s7).toNat)
      case atStart => exact ⟨0, i, Nat.zero_le _, by rw [HI1.out]; rfl, rfl, HP1.out⟩
      case round =>
        clear HP1 HI1 e0
        obtain ⟨x, i, hx, hi, rfl, PM⟩ := hrel
        obtain ⟨la, lc, rfl⟩ := PM.form
        have e1 := cf1 PM.1
        by_cases hxl : x < V
        · have ix : (x : Int) < (V : Int) := by omega
          have HP1 := hid1 PM
          have HI1 := hid1 hi
          clear PM hi
          go_wp2_with fail
          go_loopw [5, 8] (fun s5 s8 wr => ∃ q i : Nat, q ≤ C ∧ i = (y * V + x) * C + q ∧ s8 = .int .i64 q ∧ Um w wr H V C g o m cap N i s5) (fun _ s8 _ => C - (intOf s8).toNat)
          case atStart => exact ⟨0, i, Nat.zero_le _, by rw [HI1.out]; rfl, rfl, HP1.out⟩
          case round =>
            clear HP1 HI1 e1
            obtain ⟨q, i, hq, hi, rfl, PM⟩ := hrel
            obtain ⟨la, lc, rfl⟩ := PM.form
            have e2 := cf2 PM.1
            by_cases hql : q < C
            · have iq : (q : Int) < (C : Int) := by omega
              have hiT : i < T := by rw [hi]; exact HJ y x q hyl hxl hql
              have HU1 := hid1 (HU.out y x q hql)
              rw [← hi] at HU1
              have d0 := cf0 PM.1
              have d1 := cf1 PM.1
              have d3 := cf3 PM.1
              have HP1 := hid1 PM
              have HI1 := hid1 hi
              clear PM hi
              go_wp2_with fail
              refine (HBit.out y x q _ (by omega) (by omega) hql (HI y x hyl hxl) (RD.out.below HP1.out.2.2)).mono ?_
              rintro e w5 ⟨rfl, hb⟩
              generalize N.testBit (bp V C y x q) = bb at *
              have B5 := bl_step HP1.out.2.2 hb
              have R5 := keepr hb HP1.out.1
              have O5 := own_keepK HP1.out.2.1 hb
              have l5 := R5.lt
              have HB5 := hid1 B5
              have HR5 := hid1 R5
              have HO5 := hid1 O5
              clear hb HP1 d0 d1 d3 e2 B5 R5 O5
              cases bb
              · replace HU1 : Hid (uv N C i = -1) := hid1 HU1.out
                go_wp2_with (at_builtin; refine wpList_append_own _ rfl _ _ 22 rfl (w.heap.size + 1) 52 i0 (.int .i8 0) 1 1 und_i8sk hi0 hz0 hz1 hz2 rfl (by decide) (.slice la i lc) i (i8s (ul N C i)) (by go_simp) (HO5.out.alloc _) ⟨w5.heap.size, 0, none⟩ 1 1 [.int .i8 (-1)] (by go_simp) rfl (cell_one_new _ _ _) (fun x hx => by simp at hx; subst hx; rfl) (by unfold maxLen; omega) (by omega) (by simp; omega) ?_; intro v' w6 k1 k2 k3)
                have UM := Um.next HR5.out HO5.out HB5.out k1 k2 HU1.out
                obtain ⟨na, nc, rfl⟩ := UM.form
                have HUM := hid1 UM
                clear k1 k2 k3 UM
                go_wp2_with fail
                exact ⟨⟨q + 1, i + 1, by omega, by have := HI1.out; omega, by go_num, HUM.out⟩, by simp [intOf]; omega⟩
              · replace HU1 : Hid (uv N C i = 1) := hid1 HU1.out
                go_wp2_with (at_builtin; refine wpList_append_own _ rfl _ _ 22 rfl (w.heap.size + 1) 52 i0 (.int .i8 0) 1 1 und_i8sk hi0 hz0 hz1 hz2 rfl (by decide) (.slice la i lc) i (i8s (ul N C i)) (by go_simp) (HO5.out.alloc _) ⟨w5.heap.size, 0, none⟩ 1 1 [.int .i8 (1)] (by go_simp) rfl (cell_one_new _ _ _) (fun x hx => by simp at hx; subst hx; rfl) (by unfold maxLen; omega) (by omega) (by simp; omega) ?_; intro v' w6 k1 k2 k3)
                have UM := Um.next HR5.out HO5.out HB5.out k1 k2 HU1.out
                obtain ⟨na, nc, rfl⟩ := UM.form
                have HUM := hid1 UM
                clear k1 k2 k3 UM
                go_wp2_with fail
                exact ⟨⟨q + 1, i + 1, by omega, by have := HI1.out; omega, by go_num, HUM.out⟩, by simp [intOf]; omega⟩
            · have hqC : q = C := by omega
              subst hqC
              have HP1 := hid1 PM
              have HI1 := hid1 hi
              clear PM hi
              go_wp2_with fail
              exact ⟨⟨x + 1, i, by omega, by rw [HI1.out, ← Nat.add_assoc, Nat.succ_mul], by go_num, HP1.out⟩, by simp [intOf]; omega⟩
        · have hxV : x = V := by omega
          subst hxV
          have HP1 := hid1 PM
          have HI1 := hid1 hi
          clear PM hi
          go_wp2_with fail
          exact ⟨⟨y + 1, i, by omega, by rw [HI1.out, Nat.succ_mul], by go_num, HP1.out⟩, by simp [intOf]; omega⟩
    · have hyH : y = H := by omega
      subst hyH
      have HP1 := hid1 PM
      have HI1 := hid1 hi
      clear PM hi HBit HI HJ HU
      go_wp2_with fail
      go_ret2
      have e : i = T := by rw [HI1.out, HTT.out]
      subst e
      exact ⟨_, _, rfl, HP1.out.2.1, HP1.out.2.2⟩
end Go.Proofs.Ytgmildjfikgkmaa
