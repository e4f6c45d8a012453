/- THE DOCUMENT'S OWN Empty, Put. -/
import Derived.Test.YtgmildjfikgkmaaKB1
import Derived.Test.YtgmildjfikgkmaaKA2
import Derived.Test.YtgmildjfikgkmaaSW6
namespace Go.Proofs.Ytgmildjfikgkmaa
open Go.RowKit Go.Shelf

/-- An element's bit. -/
def bp (V C y x k : Nat) : Nat := 64 * ((y * V + x) * nw C) + k
theorem bp_div {V C y x k : Nat} : bp V C y x k / 64 = (y * V + x) * nw C + k / 64 := by unfold bp; omega
theorem bp_mod {V C y x k : Nat} : bp V C y x k % 64 = k % 64 := by unfold bp; omega
theorem or_wd (N i k : Nat) : wd (N ||| 2 ^ i) k = if k = i / 64 then wd N k ||| 2 ^ (i % 64) else wd N k := by
  rw [wd_or, wd_bit1]
  by_cases h : k = i / 64
  · rw [if_pos h, if_pos h]
  · rw [if_neg h, if_neg h]; simp
theorem gen_world' {K : Act → World → Prop} {Q : Exit → Act → World → Prop} {a : Act} {W : World} (p : World → Prop) (hp : p W) (h : ∀ W', p W' → Exit.then K Q .normal a W') : Exit.then K Q .normal a W := h W hp
set_option maxHeartbeats 1600000 in
set_option maxRecDepth 100000 in
theorem put_any (H V C G M N y x k : Nat) (w : World) (hV : V ≤ 4096) (hC : C ≤ 4096) (hy : y < 4096) (hx : x ≤ 4096) (hk : k < C) (hM : (y * V + x) * nw C + nw C ≤ M) (hM2 : M ≤ 1073741824) (row : w.rowIs G 75 M (wf N)) :
    Calls Try.prog 47 #[cuv H V C (some ⟨G, 0, none⟩) M M, .int .i64 y, .int .i64 x, .int .i64 k] w fun e w' => e = .returned (.tuple #[]) ∧ w'.rowIs G 75 M (wf (N ||| 2 ^ bp V C y x k)) ∧ But G w w' := by
  have HD := hid1 (deep_any C (by omega))
  have hd64 : nw C ≤ 64 := by unfold nw; omega
  have hkd : k / 64 < nw C := by unfold nw; omega
  have HOW := hid1 (fun j => or_wd N (bp V C y x k) j)
  rw [bp_div, bp_mod] at HOW
  have b1 : y * V ≤ 4096 * 4096 := Nat.mul_le_mul (by omega) hV
  have b2 : (y * V + x) * nw C ≤ (4096 * 4096 + 4096) * 64 := Nat.mul_le_mul (by omega) hd64
  generalize hB : bp V C y x k = B at *
  clear hB
  obtain ⟨d, hd⟩ : ∃ d, nw C = d := ⟨_, rfl⟩
  rw [hd] at HD hd64 hkd HOW hM b2
  clear hd
  obtain ⟨u, hu⟩ : ∃ u, y * V = u := ⟨_, rfl⟩
  have p1 : (y : Int) * (V : Int) = (u : Nat) := by rw [← hu]; push_cast; rfl
  rw [hu] at b1 b2 HOW hM
  clear hu
  obtain ⟨v, hv⟩ : ∃ v, (u + x) * d = v := ⟨_, rfl⟩
  have p2 : ((u : Int) + (x : Int)) * (d : Int) = (v : Nat) := by rw [← hv]; push_cast; rfl
  rw [hv] at b2 HOW hM
  clear hv
  obtain ⟨q, hq⟩ : ∃ q, k / 64 = q := ⟨_, rfl⟩
  obtain ⟨r, hr⟩ : ∃ r, k % 64 = r := ⟨_, rfl⟩
  rw [hq] at hkd HOW
  rw [hr] at HOW
  have eq : (k : Int) / 64 = (q : Int) := by omega
  have eq' : (k : Int).tdiv 64 = (q : Int) := by rw [Int.tdiv_eq_ediv_of_nonneg (by omega)]; exact eq
  have er : (k : Int) % 64 = (r : Int) := by omega
  have er' : (k : Int).tmod 64 = (r : Int) := by rw [Int.tmod_eq_emod_of_nonneg (by omega)]; exact er
  have ir0 : (0 : Int) ≤ (r : Int) := by omega
  have ir1 : (r : Int) ≤ 63 := by omega
  have w1 : IntKind.i64.wrap (u : Int) = (u : Int) := by rw [IntKind.wrap_i64]; omega
  have w2 : IntKind.i64.wrap ((u : Int) + (x : Int)) = (u : Int) + (x : Int) := by rw [IntKind.wrap_i64]; omega
  have w3 : IntKind.i64.wrap (v : Int) = (v : Int) := by rw [IntKind.wrap_i64]; omega
  have w4 : IntKind.i64.wrap (q : Int) = (q : Int) := by rw [IntKind.wrap_i64]; omega
  have w5 : IntKind.i64.wrap ((v : Int) + (q : Int)) = ((v + q : Nat) : Int) := by rw [IntKind.wrap_i64]; omega
  have w5' : (v : Int) + (q : Int) = ((v + q : Nat) : Int) := by omega
  have hi : v + q < M := by omega
  have cw := row.cell hi
  have fw := row.frozen (v + q)
  unfold wf at cw
  have hxx := wd_lt N (v + q)
  have H64 : (2 : Nat) ^ r < 18446744073709551616 := by rw [two64]; exact Nat.pow_lt_pow_right (by decide) (by omega)
  have HO : Hid (bits .or .u64 (wd N (v + q) : Nat) (IntKind.u64.wrap (2 ^ r)) = ((wd N (v + q) ||| 2 ^ r : Nat) : Int)) := by
    have e : IntKind.u64.wrap (2 ^ r) = ((2 ^ r : Nat) : Int) := by
      rw [show ((2 : Int) ^ r) = ((2 ^ r : Nat) : Int) by simp, IntKind.wrap_u64]
      generalize 2 ^ r = y at *; omega
    rw [e]; exact or_u64 _ _ hxx H64
  generalize hpp : v + q = p at *
  have ip0 : (0 : Int) ≤ (p : Int) := by omega
  have ip1 : (p : Int) < (M : Int) := by omega
  have lG := row.lt
  have HR := hid1 row
  clear row hq hr hpp H64 hxx
  go_enter Try.func47, Try.ntmps47
  go_wp2_with fail
  go_quiet ((go_at_call 53; exact Calls.quiet_of_same (HD.out _)))
  refine gen_world' (fun X => X.rowIs w.heap.size 33 4 (cf H V C (some ⟨G, 0, none⟩) M M) ∧ X.rowIs G 75 M (wf N) ∧ But G w X) ⟨row_drewN (cu_new w _ _ _ _ _ _ _) nq, row_drewN (HR.out.alloc _) nq, But.drewN (But.of_below (bl_alloc (Below.refl _ _) _)) nq⟩ ?_
  clear cw fw HR
  rintro X ⟨RC, RG, BX⟩
  have e3 := cf3 RC
  have cw := RG.cell (i := p) (by omega)
  unfold wf at cw
  have fw := RG.frozen p
  have HR := hid1 RG
  clear RC RG HD
  go_wp2_with fail
  refine still_tail 13 (by kernel_rfl) ?_
  simp only [List.take_succ_cons, List.take_zero, List.drop_succ_cons, List.drop_zero]
  repeat still_step
  refine wpStill_nil ?_
  go_wp2_with fail
  refine bodyPost_end (v := .tuple #[]) (by simp [results, go_sem]) rfl ⟨rfl, ((HR.out.set p _).congr fun j _ => ?_).drew, (BX.set _).drew⟩
  simp only [wf]
  rw [HOW.out j]
  by_cases e : j = p
  · rw [if_pos e, if_pos e, HO.out]; subst e; rfl
  · rw [if_neg e, if_neg e]
end Go.Proofs.Ytgmildjfikgkmaa
