import Derived.Test.YtlocmnaojebogaaRows
import Derived.Test.YtlocmnaojebogaaOB1
import Derived.ProofKit
import Derived.OpenShut
import Derived.ChangeOld
import Derived.SizedLaws
import Derived.ChangeSlices
import Derived.Deep.Slices
import Derived.ChangeSame
import Derived.Test.YtlocmnaojebogaaDW7
import Derived.Deep.AppendLies
import Derived.Laws.AppendOwnNone
import Derived.WalkLawsBesides
/- WHAT EVERY ROW OF THE SEATS OF bound WANTS: bytes, numbers, a reach as parameters. -/
namespace Go.Proofs.Ytlocmnaojebogaa
open Go.ChangeShapes Go.WideShapes Go.ChangeAt Go.RowKit
set_option maxRecDepth 100000

theorem own : ownKnob Try.prog.godebug = none := by kernel_rfl
theorem laidOut : laidOutB Try.prog = true := by kernel_rfl
theorem fldO {H : Type} {enc : TypeId × Value → H} {P : Program} {w : World} {base : Nat} {sp : Nat → Bool} {held : Bool} {t : TypeId} {fs : Array Field} {fuel : Nat} {cs : List Value} {x : DataW H × List MemPlace}
    (ht : P.underlying t = some (.struct fs)) (h : DataW.trod enc P w base sp held fuel t cs = some x) (i : Nat) (f : Field) (hi : fs[i]? = some f) (hu : P.underlying f.type = some (.int .i64)) (hc : P.cellsOf f.type = 1) :
    ∃ z : Int, (cs.drop f.offset).take 1 = [.int .i64 z] := by
  obtain ⟨xs, n, _, _, _, hxl, hf⟩ := DataW.trod_struct ht h
  have g := hf i f hi
  have hlt : i < xs.length := by
    rw [hxl]
    exact (Array.getElem?_eq_some_iff.1 hi).1
  rw [List.getElem?_eq_getElem hlt] at g
  have g' : DataW.trod enc P w base sp held n f.type ((cs.drop f.offset).take (P.cellsOf f.type)) = some _ := g
  rw [hc] at g'
  obtain ⟨z, e, _⟩ := DataW.trod_int hu g'
  exact ⟨z, e⟩
theorem cells_i64O : Try.prog.cellsOf 2 = 1 := by kernel_rfl
theorem cells_rchO : Try.prog.cellsOf 25 = 2 := by kernel_rfl
theorem len2O {l : List Value} (h : l.length = 2) : ∃ a b, l = [a, b] := by
  match l, h with
  | [a, b], _ => exact ⟨a, b, rfl⟩
theorem rch_cellsO {H : Type} {enc : TypeId × Value → H} {w : World} {base : Nat} {sp : Nat → Bool} {held : Bool} {fuel : Nat} {cs : List Value} {x : DataW H × List MemPlace}
    (h : DataW.trod enc Try.prog w base sp held fuel 25 cs = some x) : ∃ a b : Int, cs = [.int .i64 a, .int .i64 b] := by
  have hl : cs.length = 2 := by
    obtain ⟨_, _, _, _, hlen, _, _⟩ := DataW.trod_struct Try.underlying25 h
    exact hlen.trans cells_rchO
  obtain ⟨z0, e0⟩ := fldO Try.underlying25 h 0 _ rfl Try.underlying2 cells_i64O
  obtain ⟨z1, e1⟩ := fldO Try.underlying25 h 1 _ rfl Try.underlying2 cells_i64O
  obtain ⟨a, b, rfl⟩ := len2O hl
  simp at e0 e1
  subst e0 e1
  exact ⟨z0, z1, rfl⟩
theorem open_rch {H : Type} {enc : TypeId × Value → H} {W : World} {base : Nat} {v : Value} {d : DataW H} {p : List MemPlace}
    (hv : Value.okWide Try.prog W .any base 25 v) (h : DataW.Trod enc Try.prog W 0 (fun _ => true) true 25 v d p) : ∃ a b : Int, v = duo a b := by
  obtain ⟨cs, rfl, _⟩ := okWide_struct Try.underlying25 hv
  obtain ⟨fuel, hf⟩ := h
  obtain ⟨a, b, e⟩ := rch_cellsO hf
  refine ⟨a, b, ?_⟩
  simp [Value.cells] at e
  obtain ⟨l⟩ := cs
  simp at e
  subst e
  rfl
theorem add_atO (b o n : Nat) : Addr.add ⟨b, o, none⟩ n = ⟨b, o + n, none⟩ := by
  unfold Addr.add
  by_cases h : n = 0
  · subst h; rfl
  · rw [if_neg h]
theorem max_isO : maxLen = 9223372036854775807 := by decide
theorem u8_of_wfO {x : Int} (h : (Lit.int .u8 x).wf = true) : 0 ≤ x ∧ x < 256 := by
  simp [Lit.wf, IntKind.min, IntKind.max, IntKind.signed, IntKind.bits] at h
  exact ⟨by omega, by omega⟩
theorem cells_u8O : Try.prog.cellsOf 5 = 1 := by kernel_rfl
theorem und_u8sO : Try.prog.underlying 22 = some (.slice 5) := by kernel_rfl
theorem und_i64sO : Try.prog.underlying 23 = some (.slice 2) := by kernel_rfl
/-- A list of numbers of one kind. -/
theorem open_nums {H : Type} {enc : TypeId × Value → H} {W : World} {base : Nat} {t e : TypeId} {K : IntKind} {v : Value} {d : DataW H} {p : List MemPlace} (ht : Try.prog.underlying t = some (.slice e)) (he : Try.prog.underlying e = some (.int K)) (hN : Try.prog.cellsOf e = 1)
    (hv : Value.okWide Try.prog W .any base t v) (h : DataW.Trod enc Try.prog W 0 (fun _ => true) true t v d p) :
    ∃ (ao : Option Addr) (m cap : Nat) (f : Nat → Int), v = .slice ao m cap ∧ m ≤ cap ∧ cap ≤ 9223372036854775807 ∧ ∀ k, k < m → (Lit.int K (f k)).wf = true ∧ ∃ g o, ao = some ⟨g, o, none⟩ ∧ W.cell? ⟨g, o + k, none⟩ = some (.int K (f k)) := by
  obtain ⟨a0, len, cap, rfl⟩ := okWide_slice ht hv
  obtain ⟨fuel, hf⟩ := h
  rcases open_ints ht he hN hf with ⟨hc, hx⟩ | ⟨a, len', cap', zs, hc, _, hl, hm, hzl, hx, hcell, hwf⟩
  · simp [Value.cells] at hc
    obtain ⟨rfl, rfl, rfl⟩ := hc
    exact ⟨none, 0, 0, fun _ => 0, rfl, by omega, by omega, fun k hk => absurd hk (by omega)⟩
  · simp [Value.cells] at hc
    obtain ⟨rfl, rfl, rfl⟩ := hc
    simp only [if_true] at hzl
    have hmx := max_isO
    refine ⟨some a, len, cap, fun k => zs.getD k 0, rfl, by omega, by omega, fun k hk => ?_⟩
    obtain ⟨b, o, s⟩ := a
    have c := hcell k (by omega)
    have c0 := hcell 0 (by omega)
    have hs := World.cell?_spot c0
    simp [Addr.add] at hs
    subst hs
    rw [add_atO] at c
    have hk' : k < zs.length := by omega
    have e1 : zs.getD k 0 = zs[k] := by simp [List.getD, hk']
    refine ⟨?_, b, o, rfl, ?_⟩
    · dsimp only
      rw [e1]
      exact hwf zs[k] (List.getElem_mem hk')
    · exact c
theorem open_u8s {H : Type} {enc : TypeId × Value → H} {W : World} {base : Nat} {v : Value} {d : DataW H} {p : List MemPlace}
    (hv : Value.okWide Try.prog W .any base 22 v) (h : DataW.Trod enc Try.prog W 0 (fun _ => true) true 22 v d p) :
    ∃ (ao : Option Addr) (m cap : Nat) (f : Nat → Int), v = .slice ao m cap ∧ m ≤ cap ∧ cap ≤ 9223372036854775807 ∧ ∀ k, k < m → (0 ≤ f k ∧ f k < 256) ∧ ∃ g o, ao = some ⟨g, o, none⟩ ∧ W.cell? ⟨g, o + k, none⟩ = some (.int .u8 (f k)) := by
  obtain ⟨ao, m, cap, f, e, h1, h2, h3⟩ := open_nums und_u8sO Try.underlying5 cells_u8O hv h
  exact ⟨ao, m, cap, f, e, h1, h2, fun k hk => ⟨u8_of_wfO (h3 k hk).1, (h3 k hk).2⟩⟩
theorem open_i64x {H : Type} {enc : TypeId × Value → H} {W : World} {base : Nat} {v : Value} {d : DataW H} {p : List MemPlace}
    (hv : Value.okWide Try.prog W .any base 23 v) (h : DataW.Trod enc Try.prog W 0 (fun _ => true) true 23 v d p) :
    ∃ (ao : Option Addr) (m cap : Nat) (f : Nat → Int), v = .slice ao m cap ∧ m ≤ cap ∧ cap ≤ 9223372036854775807 ∧ ∀ k, k < m → ∃ g o, ao = some ⟨g, o, none⟩ ∧ W.cell? ⟨g, o + k, none⟩ = some (.int .i64 (f k)) := by
  obtain ⟨ao, m, cap, f, e, h1, h2, h3⟩ := open_nums und_i64sO Try.underlying2 cells_i64O hv h
  exact ⟨ao, m, cap, f, e, h1, h2, fun k hk => (h3 k hk).2⟩
end Go.Proofs.Ytlocmnaojebogaa
/- bound.Row. -/
namespace Go.Proofs.Ytlocmnaojebogaa
open Go.RowKit

theorem pcO_and (A B : Nat) : ∀ n, pc (A &&& B) n ≤ pc B n
  | 0 => Nat.le_refl _
  | n + 1 => by
    have ih := pcO_and A B n
    simp only [pc]
    rw [Nat.testBit_and]
    cases A.testBit n <;> cases B.testBit n <;> simp <;> omega
set_option maxHeartbeats 800000 in
set_option maxRecDepth 100000 in
theorem ofRow_any (A B : Bt) (w : World) (hA : Rw w A) (hB : Rw w B) (ha : A.m ≤ 262144) (hb : B.m ≤ 262144) :
    Calls Try.prog 30 #[rwv A B] w fun e w' => e = .returned (duo (pc A.N (64 * A.m) : Nat) ((pc B.N (64 * B.m) : Nat) - (pc A.N (64 * A.m) : Nat))) ∧ Below w.heap.size w w' := by
  have p1 := pcO_bd (N := A.N) (Nat.le_refl A.m)
  have p2 := pcO_bd (N := B.N) (Nat.le_refl B.m)
  have CA := hid1 (fun W (h : Below w.heap.size w W) => bones_any A.ao A.m A.cap A.N W ha (hA.below h).2.2)
  have CB := hid1 (fun W (h : Below w.heap.size w W) => bones_any B.ao B.m B.cap B.N W hb (hB.below h).2.2)
  clear hA hB
  generalize pc A.N (64 * A.m) = P at *
  generalize pc B.N (64 * B.m) = Q at *
  go_enter Try.func30, Try.ntmps30
  go_wp2_with fail
  refine (CA.out _ (by repeat (first | (with_reducible exact Below.refl _ _) | (with_reducible refine bl_alloc ?_ _) | (with_reducible refine Below.drew ?_) | (with_reducible refine bl_drewN ?_ _) | (with_reducible refine bl_set ?_ (by omega) _) | (with_reducible refine bl_step ?_ (by assumption))))).mono ?_
  rintro e w1 ⟨rfl, rfl⟩
  go_wp2_with fail
  refine (CB.out _ (by repeat (first | (with_reducible exact Below.refl _ _) | (with_reducible refine bl_alloc ?_ _) | (with_reducible refine Below.drew ?_) | (with_reducible refine bl_drewN ?_ _) | (with_reducible refine bl_set ?_ (by omega) _) | (with_reducible refine bl_step ?_ (by assumption))))).mono ?_
  rintro e w1 ⟨rfl, rfl⟩
  go_wp2_with fail
  refine bodyPost_ret (v := duo (P : Nat) ((Q : Nat) - (P : Nat))) (by simp [results, Try.results30, go_sem]) rfl ⟨rfl, ?_⟩
  repeat (first | exact Below.refl _ _ | refine bl_alloc ?_ _ | refine Below.drew ?_ | refine bl_drewN ?_ _ | refine bl_set ?_ (by omega) _ | refine bl_step ?_ (by assumption))
/-- How many weights are plus; minus. -/
def rP (A : Bt) : Int := (pc A.N (64 * A.m) : Nat)
def rM (A B : Bt) : Int := (pc B.N (64 * B.m) : Nat) - (pc A.N (64 * A.m) : Nat)
def rL (A B : Bt) (lo hi : Int) : Int := rP A * lo - rM A B * hi
def rH (A B : Bt) (lo hi : Int) : Int := rP A * hi - rM A B * lo
/-- What Row tells. -/
def roE (A B : Bt) (lo hi : Int) : Int := if dck A B ≠ 0 then dck A B else if maR lo hi then (if maR (rL A B lo hi) (rH A B lo hi) then 0 else 55) else 1
def roL (A B : Bt) (lo hi : Int) : Int := if roE A B lo hi = 0 then rL A B lo hi else 0
def roH (A B : Bt) (lo hi : Int) : Int := if roE A B lo hi = 0 then rH A B lo hi else 0
theorem mulO {p x : Int} (hp : 0 ≤ p ∧ p ≤ 16777216) (hx : -2147483647 ≤ x ∧ x ≤ 2147483647) : -36028797018963968 ≤ p * x ∧ p * x ≤ 36028797018963968 := by
  have h1 : p * x ≤ 16777216 * 2147483647 := by
    by_cases h0 : 0 ≤ x
    · exact Int.le_trans (Int.mul_le_mul_of_nonneg_right hp.2 h0) (Int.mul_le_mul_of_nonneg_left hx.2 (by decide))
    · exact Int.le_trans (Int.mul_nonpos_of_nonneg_of_nonpos hp.1 (by omega)) (by decide)
  have h2 : p * (-x) ≤ 16777216 * 2147483647 := by
    by_cases h0 : 0 ≤ -x
    · exact Int.le_trans (Int.mul_le_mul_of_nonneg_right hp.2 h0) (Int.mul_le_mul_of_nonneg_left (by omega) (by decide))
    · exact Int.le_trans (Int.mul_nonpos_of_nonneg_of_nonpos hp.1 (by omega)) (by decide)
  rw [Int.mul_neg] at h2
  omega
theorem rB {A B : Bt} (h : dck A B = 0) : (0 ≤ rP A ∧ rP A ≤ 16777216) ∧ (0 ≤ rM A B ∧ rM A B ≤ 16777216) := by
  obtain ⟨n, e1, e2, hn, m1, m2, l1, l2, ha⟩ := dck_zero h
  unfold rP rM
  have q1 := pc_le B.N (64 * B.m)
  have a1 : pc A.N (64 * A.m) = pc A.N n := pc_above l1 (by rw [m1]; exact nw_le n)
  have a2 : pc B.N (64 * B.m) = pc B.N n := pc_above l2 (by rw [m2]; exact nw_le n)
  have a3 := pcO_and A.N B.N n
  rw [ha] at a3
  have a4 := pc_le A.N n
  have a5 := pc_le B.N n
  rw [a1, a2]
  omega
theorem dck_m {A B : Bt} (h : dck A B = 0) : A.m ≤ 262144 ∧ B.m ≤ 262144 := by
  obtain ⟨n, e1, e2, hn, m1, m2, l1, l2, ha⟩ := dck_zero h
  have := nw_bd hn
  rw [m1, m2]; unfold nw at *; omega
theorem kpO {V Y : World} {b2 b3 t2 t3 : Nat} {A B : Bt} {lo hi : Int} (h2 : V.rowIs b2 t2 4 (qf A B)) (h3 : V.rowIs b3 t3 2 (duf lo hi)) (hb : Below V.heap.size V Y) :
    (Y.cell? ⟨b2, 0, none⟩ = some (.int .i64 A.n) ∧ Y.cell? ⟨b2, 1, none⟩ = some (.slice A.ao A.m A.cap) ∧ Y.cell? ⟨b2, 2, none⟩ = some (.int .i64 B.n) ∧ Y.cell? ⟨b2, 3, none⟩ = some (.slice B.ao B.m B.cap)) ∧ (Y.cell? ⟨b3, 0, none⟩ = some (.int .i64 lo) ∧ Y.cell? ⟨b3, 1, none⟩ = some (.int .i64 hi)) :=
  ⟨⟨q0 (keepr hb h2), q1 (keepr hb h2), q2 (keepr hb h2), q3 (keepr hb h2)⟩, du0 (keepr hb h3), du1 (keepr hb h3)⟩
theorem du_set {w : World} {b t : Nat} {x y : Int} (h : w.rowIs b t 2 (duf x y)) (u v : Int) : ((w.setCell ⟨b, 0, none⟩ (.int .i64 u)).setCell ⟨b, 1, none⟩ (.int .i64 v)).rowIs b t 2 (duf u v) := by
  have h1 := (h.set 0 (.int .i64 u)).set 1 (.int .i64 v)
  refine h1.congr fun i hi => ?_
  rcases i with _ | _ | i
  · rfl
  · rfl
  · omega
end Go.Proofs.Ytlocmnaojebogaa
/- bound.Row, walked. -/
namespace Go.Proofs.Ytlocmnaojebogaa
open Go.RowKit

theorem kmeet_of {J K : Act → World → Prop} {Q : Exit → Act → World → Prop} {a : Act} {w : World} (hK : ∀ a' w', Met J a' w' → K a' w') (h : Met J a w) : Exit.then K Q Exit.normal a w := hK _ _ h
set_option maxHeartbeats 1600000 in
set_option maxRecDepth 100000 in
theorem brow_any (A B : Bt) (lo hi : Int) (w : World) (hA : Rw w A) (hB : Rw w B) :
    Calls Try.prog 11 #[rwv A B, duo lo hi] w fun e w' => e = .returned (.tuple #[duo (roL A B lo hi) (roH A B lo hi), .int .i64 (roE A B lo hi)]) ∧ Below w.heap.size w w' := by
  have HA := hid1 hA
  have HB := hid1 hB
  clear hA hB
  by_cases hd : dck A B = 0
  · have CD := hid1 (fun W (h : Below w.heap.size w W) => dcheck_any A B W (HA.out.below h) (HB.out.below h))
    rw [hd] at CD
    by_cases hm : maR lo hi
    · have e1 : roE A B lo hi = if maR (rL A B lo hi) (rH A B lo hi) then 0 else 55 := by unfold roE; rw [if_neg (by simpa using hd), if_pos hm]
      have hq := rB hd
      have CO := hid1 (fun W (h : Below w.heap.size w W) => ofRow_any A B W (HA.out.below h) (HB.out.below h) (dck_m hd).1 (dck_m hd).2)
      have k1 := mulO hq.1 ⟨hm.1, by have := hm.2; omega⟩
      have k2 := mulO hq.2 ⟨by have := hm.1; have := hm.2; omega, hm.2.2⟩
      have k3 := mulO hq.1 ⟨by have := hm.1; have := hm.2; omega, hm.2.2⟩
      have k4 := mulO hq.2 ⟨hm.1, by have := hm.2; omega⟩
      have CT := hid1 (fun W => times_any (rP A) (rM A B) lo hi W k1 k2 k3 k4)
      have HL : Hid (rL A B lo hi = rP A * lo - rM A B * hi) := hid1 rfl
      have HH : Hid (rH A B lo hi = rP A * hi - rM A B * lo) := hid1 rfl
      rw [← HL.out, ← HH.out] at CT
      have CM := hid1 (fun W => mayBe_any lo hi W)
      rw [decide_eq_true hm] at CM
      have CN := hid1 (fun W => mayBe_any (rL A B lo hi) (rH A B lo hi) W)
      have HE := hid1 e1
      have HV1 : Hid (roL A B lo hi = if roE A B lo hi = 0 then rL A B lo hi else 0) := hid1 rfl
      have HV2 : Hid (roH A B lo hi = if roE A B lo hi = 0 then rH A B lo hi else 0) := hid1 rfl
      change Hid (∀ W, _ → Calls _ _ _ _ (fun e w' => e = .returned (duo (rP A) (rM A B)) ∧ _)) at CO
      clear e1 hd hm hq k1 k2 k3 k4 HL HH
      generalize rP A = p at *
      generalize rM A B = q at *
      generalize roE A B lo hi = E at *
      generalize roL A B lo hi = vL at *
      generalize roH A B lo hi = vH at *
      generalize rL A B lo hi = L at *
      generalize rH A B lo hi = H at *
      go_enter Try.func11, Try.ntmps11
      go_wp2_with fail
      refine gen_calls (fun X => Below w.heap.size w X ∧ X.rowIs w.heap.size 34 4 (qf A B) ∧ X.rowIs (w.heap.size + 1) 25 2 (duf lo hi) ∧ X.rowIs (w.heap.size + 1 + 1) 25 2 (duf 0 0)) ⟨by repeat (first | (with_reducible exact Below.refl _ _) | (with_reducible refine bl_alloc ?_ _) | (with_reducible refine Below.drew ?_) | (with_reducible refine bl_drewN ?_ _) | (with_reducible refine bl_set ?_ (by omega) _) | (with_reducible refine bl_step ?_ (by assumption))), ((q_new w A B _).alloc _).alloc _, by have := (du_new (w.alloc (.cells #[.int .i64 A.n, .slice A.ao A.m A.cap, .int .i64 B.n, .slice B.ao B.m B.cap] 34)) lo hi 25).alloc (.cells #[.int .i64 0, .int .i64 0] 25); simpa using this, by have := du_new ((w.alloc (.cells #[.int .i64 A.n, .slice A.ao A.m A.cap, .int .i64 B.n, .slice B.ao B.m B.cap] 34)).alloc (.cells #[.int .i64 lo, .int .i64 hi] 25)) 0 0 25; simpa using this⟩ ?_
      rintro X ⟨BX, R0, R1, R2⟩
      obtain ⟨b, hb0⟩ : ∃ b, w.heap.size = b := ⟨_, rfl⟩
      rw [hb0] at R0 R1 R2 ⊢
      refine (CD.out X BX).mono ?_
      rintro e w1 ⟨rfl, hb⟩
      replace BX := bl_step BX hb
      replace R0 := keepr hb R0
      replace R1 := keepr hb R1
      replace R2 := keepr hb R2
      clear hb
      have l0 := du0 R1
      have l1 := du1 R1
      go_wp2_with fail
      refine (CM.out w1).mono ?_
      rintro e w2 ⟨rfl, hb⟩
      replace BX := bl_step BX hb
      replace R0 := keepr hb R0
      replace R1 := keepr hb R1
      replace R2 := keepr hb R2
      clear hb l0 l1
      have HR0 := hid1 R0
      have HR1 := hid1 R1
      have HR2 := hid1 R2
      have HBX := hid1 BX
      have a0 := q0 R0
      have a1 := q1 R0
      have a2 := q2 R0
      have a3 := q3 R0
      have l0 := du0 R1
      have l1 := du1 R1
      have lX := R2.lt
      clear R0 R1 R2 BX
      have hfo := follows
      go_upto_region 6 with fail
      go_cut [7] from 18 to 22 (fun s7 wx => ∃ bM, s7 = .pointer (some ⟨bM, 0, none⟩) ∧ w2.heap.size ≤ bM ∧ wx.rowIs bM 25 2 (duf L H) ∧ Below w2.heap.size w2 wx)
      case first =>
        go_region_held3 (fun Y => (Y.cell? ⟨b, 0, none⟩ = some (.int .i64 A.n) ∧ Y.cell? ⟨b, 1, none⟩ = some (.slice A.ao A.m A.cap) ∧ Y.cell? ⟨b, 2, none⟩ = some (.int .i64 B.n) ∧ Y.cell? ⟨b, 3, none⟩ = some (.slice B.ao B.m B.cap)) ∧ (Y.cell? ⟨b + 1, 0, none⟩ = some (.int .i64 lo) ∧ Y.cell? ⟨b + 1, 1, none⟩ = some (.int .i64 hi)))
          (((try dsimp only); (with_reducible refine kpO (V := w2) HR0.out HR1.out ?_); repeat (first | (with_reducible exact Below.refl _ _) | (with_reducible assumption) | (with_reducible refine Below.drew ?_) | (with_reducible refine bl_alloc ?_ _) | (with_reducible refine bl_set ?_ (by first | exact Nat.le_refl _ | exact by1.size | exact by2.size) _))))
          (first
          | (go_at_call 30; refine (CO.out _ (bl_step HBX.out (by repeat (first | (with_reducible exact Below.refl _ _) | (with_reducible refine Below.drew ?_) | (with_reducible refine bl_alloc ?_ _))))).mono ?_; rintro e y1 ⟨rfl, hb1⟩; have by1 : Below w2.heap.size w2 y1 := (bl_step (by repeat (first | (with_reducible exact Below.refl _ _) | (with_reducible refine Below.drew ?_) | (with_reducible refine bl_alloc ?_ _))) hb1); have HB1 := hid1 hb1; (try (have VR := keepr HB1.out (du_new w2 0 0 25).drew; have HVR := hid1 VR; clear VR)); clear hb1)
          | (go_at_call 31; refine (CT.out _).mono ?_; rintro e y2 ⟨rfl, hb2⟩; have by2 : Below w2.heap.size w2 y2 := (bl_step (by repeat (first | (with_reducible assumption) | (with_reducible refine Below.drew ?_) | (with_reducible refine bl_alloc ?_ _))) hb2); have HB2 := hid1 hb2; (first | (have VR := keepr HB2.out HVR.out) | (have VR := keepr HB2.out HVR.out.drew) | (have VR := keepr HB2.out (du_new y1 0 0 25)) | (have VR := keepr HB2.out (du_new y1 0 0 25).drew) | skip); (try (have v0 := du0 VR; have v1 := du1 VR; have f0 := VR.frozen 0; have f1 := VR.frozen 1; have HVS := hid1 VR; clear VR)); clear hb2))
        all_goals (refine kmeet_of (by assumption) ?_; go_meet)
        · exact ⟨_, rfl, by2.size, du_new _ _ _ _, bl_alloc by2 _⟩
        all_goals (first | exact ⟨_, rfl, Nat.le_refl _, du_set HVS.out _ _, bl_set (bl_set by2 (Nat.le_refl _) _) (Nat.le_refl _) _⟩ | exact ⟨_, rfl, by1.size, du_set HVS.out _ _, bl_set (bl_set by2 by1.size _) by1.size _⟩)
      case rest =>
        obtain ⟨bM, rfl, gM, RM, Bc⟩ := hcut
        replace HBX := hid1 (bl_step HBX.out Bc)
        replace HR2 := hid1 (keepr Bc HR2.out)
        clear HR0 HR1 Bc a0 a1 a2 a3 l0 l1
        have m0 := du0 RM
        have m1 := du1 RM
        go_wp2_with fail
        refine (CN.out wc).mono ?_
        rintro e w3 ⟨rfl, hb⟩
        replace HBX := hid1 (bl_step HBX.out hb)
        replace HR2 := hid1 (keepr hb HR2.out)
        replace RM := keepr hb RM
        clear hb m0 m1
        have m0 := du0 RM
        have m1 := du1 RM
        have r0 := du0 HR2.out
        have r1 := du1 HR2.out
        have f0 := HR2.out.frozen 0
        have f1 := HR2.out.frozen 1
        have nb : b + 1 + 1 ≠ bM := by omega
        have nb2 : bM ≠ b + 1 + 1 := by omega
        by_cases hr : maR L H
        · rw [if_pos hr] at HE
          have e1 := HE.out
          have e2 : vL = L := by rw [HV1.out, if_pos e1]
          have e3 : vH = H := by rw [HV2.out, if_pos e1]
          rw [decide_eq_true hr]
          subst e1 e2 e3
          clear HV1 HV2 HE
          go_wp2_with fail
          refine bodyPost_ret (v := .tuple #[duo vL vH, .int .i64 0]) (by simp [results, Try.results11, go_sem, *]) rfl ⟨rfl, ?_⟩
          exact bl_set (bl_set HBX.out (by omega) _) (by omega) _
        · rw [if_neg hr] at HE
          have e1 := HE.out
          have e2 : vL = 0 := by rw [HV1.out, if_neg (by rw [e1]; decide)]
          have e3 : vH = 0 := by rw [HV2.out, if_neg (by rw [e1]; decide)]
          rw [decide_eq_false hr]
          subst e1 e2 e3
          clear HV1 HV2 HE
          go_wp2_with fail
          refine bodyPost_ret (v := .tuple #[duo 0 0, .int .i64 55]) (by simp [results, Try.results11, go_sem, *]) rfl ⟨rfl, ?_⟩
          exact bl_set (bl_set HBX.out (by omega) _) (by omega) _
    · have e1 : roE A B lo hi = 1 := by unfold roE; rw [if_neg (by simpa using hd), if_neg hm]
      have e2 : roL A B lo hi = 0 := by unfold roL; rw [if_neg (by rw [e1]; decide)]
      have e3 : roH A B lo hi = 0 := by unfold roH; rw [if_neg (by rw [e1]; decide)]
      rw [e1, e2, e3]
      have CM := hid1 (fun W => mayBe_any lo hi W)
      rw [decide_eq_false hm] at CM
      clear e1 e2 e3 hd hm
      go_enter Try.func11, Try.ntmps11
      go_wp2_with fail
      refine gen_calls (fun X => Below w.heap.size w X ∧ X.rowIs w.heap.size 34 4 (qf A B) ∧ X.rowIs (w.heap.size + 1) 25 2 (duf lo hi) ∧ X.rowIs (w.heap.size + 1 + 1) 25 2 (duf 0 0)) ⟨by repeat (first | (with_reducible exact Below.refl _ _) | (with_reducible refine bl_alloc ?_ _) | (with_reducible refine Below.drew ?_) | (with_reducible refine bl_drewN ?_ _) | (with_reducible refine bl_set ?_ (by omega) _) | (with_reducible refine bl_step ?_ (by assumption))), ((q_new w A B _).alloc _).alloc _, by have := (du_new (w.alloc (.cells #[.int .i64 A.n, .slice A.ao A.m A.cap, .int .i64 B.n, .slice B.ao B.m B.cap] 34)) lo hi 25).alloc (.cells #[.int .i64 0, .int .i64 0] 25); simpa using this, by have := du_new ((w.alloc (.cells #[.int .i64 A.n, .slice A.ao A.m A.cap, .int .i64 B.n, .slice B.ao B.m B.cap] 34)).alloc (.cells #[.int .i64 lo, .int .i64 hi] 25)) 0 0 25; simpa using this⟩ ?_
      rintro X ⟨BX, R0, R1, R2⟩
      obtain ⟨b, hb0⟩ : ∃ b, w.heap.size = b := ⟨_, rfl⟩
      rw [hb0] at R0 R1 R2 ⊢
      refine (CD.out X BX).mono ?_
      rintro e w1 ⟨rfl, hb⟩
      replace BX := bl_step BX hb
      replace R0 := keepr hb R0
      replace R1 := keepr hb R1
      replace R2 := keepr hb R2
      clear hb
      have l0 := du0 R1
      have l1 := du1 R1
      go_wp2_with fail
      refine (CM.out w1).mono ?_
      rintro e w2 ⟨rfl, hb⟩
      replace BX := bl_step BX hb
      replace R0 := keepr hb R0
      replace R1 := keepr hb R1
      replace R2 := keepr hb R2
      clear hb l0 l1
      have r0 := du0 R2
      have r1 := du1 R2
      have f0 := R2.frozen 0
      have f1 := R2.frozen 1
      clear R0 R1
      go_wp2_with fail
      refine bodyPost_ret (v := .tuple #[duo 0 0, .int .i64 1]) (by simp [results, Try.results11, go_sem, *]) rfl ⟨rfl, ?_⟩
      exact bl_set (bl_set BX (by omega) _) (by omega) _
  · have e1 : roE A B lo hi = dck A B := by unfold roE; rw [if_pos hd]
    have e2 : roL A B lo hi = 0 := by unfold roL; rw [if_neg (by rw [e1]; exact hd)]
    have e3 : roH A B lo hi = 0 := by unfold roH; rw [if_neg (by rw [e1]; exact hd)]
    rw [e1, e2, e3]
    have CD := hid1 (fun W (h : Below w.heap.size w W) => dcheck_any A B W (HA.out.below h) (HB.out.below h))
    have hx2 : (dck A B != 0) = true := by simpa using hd
    clear e1 e2 e3 hd
    generalize dck A B = x at *
    go_enter Try.func11, Try.ntmps11
    go_wp2_with fail
    refine gen_calls (fun X => Below w.heap.size w X ∧ X.rowIs w.heap.size 34 4 (qf A B) ∧ X.rowIs (w.heap.size + 1) 25 2 (duf lo hi) ∧ X.rowIs (w.heap.size + 1 + 1) 25 2 (duf 0 0)) ⟨by repeat (first | (with_reducible exact Below.refl _ _) | (with_reducible refine bl_alloc ?_ _) | (with_reducible refine Below.drew ?_) | (with_reducible refine bl_drewN ?_ _) | (with_reducible refine bl_set ?_ (by omega) _) | (with_reducible refine bl_step ?_ (by assumption))), ((q_new w A B _).alloc _).alloc _, by have := (du_new (w.alloc (.cells #[.int .i64 A.n, .slice A.ao A.m A.cap, .int .i64 B.n, .slice B.ao B.m B.cap] 34)) lo hi 25).alloc (.cells #[.int .i64 0, .int .i64 0] 25); simpa using this, by have := du_new ((w.alloc (.cells #[.int .i64 A.n, .slice A.ao A.m A.cap, .int .i64 B.n, .slice B.ao B.m B.cap] 34)).alloc (.cells #[.int .i64 lo, .int .i64 hi] 25)) 0 0 25; simpa using this⟩ ?_
    rintro X ⟨BX, R0, R1, R2⟩
    obtain ⟨b, hb0⟩ : ∃ b, w.heap.size = b := ⟨_, rfl⟩
    rw [hb0] at R0 R1 R2 ⊢
    refine (CD.out X BX).mono ?_
    rintro e w1 ⟨rfl, hb⟩
    replace BX := bl_step BX hb
    replace R0 := keepr hb R0
    replace R1 := keepr hb R1
    replace R2 := keepr hb R2
    clear hb
    have r0 := du0 R2
    have r1 := du1 R2
    have f0 := R2.frozen 0
    have f1 := R2.frozen 1
    clear R0 R1
    go_wp2_with fail
    refine bodyPost_ret (v := .tuple #[duo 0 0, .int .i64 x]) (by simp [results, Try.results11, go_sem, *]) rfl ⟨rfl, ?_⟩
    exact bl_set (bl_set BX (by omega) _) (by omega) _
end Go.Proofs.Ytlocmnaojebogaa
/- planeOf, Planes. -/
namespace Go.Proofs.Ytlocmnaojebogaa
open Go.RowKit

/-- Bit p of a number of eight bits. -/
def plb (l : List Int) (p i : Nat) : Bool := ((ia l i % 256).toNat).testBit p
theorem plb_is (v : Int) (p : Nat) : (bits .and .u8 (v % 256 / 2 ^ p) 1 == 1) = ((v % 256).toNat).testBit p := by
  have e : v % 256 = (((v % 256).toNat : Nat) : Int) := by omega
  have hx : (v % 256).toNat < 256 := by omega
  generalize (v % 256).toNat = x at *
  rw [e]
  have e2 : (x : Int) / 2 ^ p = ((x / 2 ^ p : Nat) : Int) := by simp
  rw [e2]
  have e3 : bits .and .u8 ((x / 2 ^ p : Nat) : Int) 1 = _ := u8_and_nat (x / 2 ^ p) 1 (Nat.lt_of_le_of_lt (Nat.div_le_self _ _) hx) (by decide)
  rw [e3, Nat.and_one_is_mod, Nat.testBit_eq_decide_div_mod_eq]
  rcases Nat.mod_two_eq_zero_or_one (x / 2 ^ p) with h | h <;> simp [h]
theorem bn_set {f : Nat → Bool} {k : Nat} (h : f k = true) : bn f (k + 1) = bn f k ||| 2 ^ k := by simp only [bn]; rw [if_pos h]
theorem bn_not {f : Nat → Bool} {k : Nat} (h : f k = false) : bn f (k + 1) = bn f k := by simp only [bn]; rw [if_neg (by simp [h])]; simp

end Go.Proofs.Ytlocmnaojebogaa
/- Planes. -/
namespace Go.Proofs.Ytlocmnaojebogaa
open Go.RowKit

/-- Eight rows of bits as a value, and as cells. -/
abbrev pv (P : Nat → Bt) : Value := .agg #[.int .i64 (P 0).n, .slice (P 0).ao (P 0).m (P 0).cap, .int .i64 (P 1).n, .slice (P 1).ao (P 1).m (P 1).cap, .int .i64 (P 2).n, .slice (P 2).ao (P 2).m (P 2).cap, .int .i64 (P 3).n, .slice (P 3).ao (P 3).m (P 3).cap, .int .i64 (P 4).n, .slice (P 4).ao (P 4).m (P 4).cap, .int .i64 (P 5).n, .slice (P 5).ao (P 5).m (P 5).cap, .int .i64 (P 6).n, .slice (P 6).ao (P 6).m (P 6).cap, .int .i64 (P 7).n, .slice (P 7).ao (P 7).m (P 7).cap]
def pfc (P : Nat → Bt) : Nat → Value := fun j => if j % 2 = 0 then .int .i64 (P (j / 2)).n else .slice (P (j / 2)).ao (P (j / 2)).m (P (j / 2)).cap
theorem pfc_even (P : Nat → Bt) (p : Nat) : pfc P (p * 2) = .int .i64 (P p).n := by
  unfold pfc; rw [if_pos (by omega), show p * 2 / 2 = p by omega]
theorem pfc_odd (P : Nat → Bt) (p : Nat) : pfc P (p * 2 + 1) = .slice (P p).ao (P p).m (P p).cap := by
  unfold pfc; rw [if_neg (by omega), show (p * 2 + 1) / 2 = p by omega]
theorem p_new (w : World) (P : Nat → Bt) (t : TypeId) : (w.alloc (.cells #[.int .i64 (P 0).n, .slice (P 0).ao (P 0).m (P 0).cap, .int .i64 (P 1).n, .slice (P 1).ao (P 1).m (P 1).cap, .int .i64 (P 2).n, .slice (P 2).ao (P 2).m (P 2).cap, .int .i64 (P 3).n, .slice (P 3).ao (P 3).m (P 3).cap, .int .i64 (P 4).n, .slice (P 4).ao (P 4).m (P 4).cap, .int .i64 (P 5).n, .slice (P 5).ao (P 5).m (P 5).cap, .int .i64 (P 6).n, .slice (P 6).ao (P 6).m (P 6).cap, .int .i64 (P 7).n, .slice (P 7).ao (P 7).m (P 7).cap] t)).rowIs w.heap.size t 16 (pfc P) :=
  World.rowIs_alloc w _ t _ (fun i hi => by
    rcases i with _ | _ | _ | _ | _ | _ | _ | _ | _ | _ | _ | _ | _ | _ | _ | _ | i
    · rfl
    · rfl
    · rfl
    · rfl
    · rfl
    · rfl
    · rfl
    · rfl
    · rfl
    · rfl
    · rfl
    · rfl
    · rfl
    · rfl
    · rfl
    · rfl
    · simp at hi; omega)
/-- All sixteen cells. -/
def C16 (w : World) (b : Nat) (P : Nat → Bt) : Prop := w.cell? ⟨b, 0, none⟩ = some (.int .i64 (P 0).n) ∧ w.cell? ⟨b, 1, none⟩ = some (.slice (P 0).ao (P 0).m (P 0).cap) ∧ w.cell? ⟨b, 2, none⟩ = some (.int .i64 (P 1).n) ∧ w.cell? ⟨b, 3, none⟩ = some (.slice (P 1).ao (P 1).m (P 1).cap) ∧ w.cell? ⟨b, 4, none⟩ = some (.int .i64 (P 2).n) ∧ w.cell? ⟨b, 5, none⟩ = some (.slice (P 2).ao (P 2).m (P 2).cap) ∧ w.cell? ⟨b, 6, none⟩ = some (.int .i64 (P 3).n) ∧ w.cell? ⟨b, 7, none⟩ = some (.slice (P 3).ao (P 3).m (P 3).cap) ∧ w.cell? ⟨b, 8, none⟩ = some (.int .i64 (P 4).n) ∧ w.cell? ⟨b, 9, none⟩ = some (.slice (P 4).ao (P 4).m (P 4).cap) ∧ w.cell? ⟨b, 10, none⟩ = some (.int .i64 (P 5).n) ∧ w.cell? ⟨b, 11, none⟩ = some (.slice (P 5).ao (P 5).m (P 5).cap) ∧ w.cell? ⟨b, 12, none⟩ = some (.int .i64 (P 6).n) ∧ w.cell? ⟨b, 13, none⟩ = some (.slice (P 6).ao (P 6).m (P 6).cap) ∧ w.cell? ⟨b, 14, none⟩ = some (.int .i64 (P 7).n) ∧ w.cell? ⟨b, 15, none⟩ = some (.slice (P 7).ao (P 7).m (P 7).cap)
theorem c16 {w : World} {b t : Nat} {P : Nat → Bt} (h : w.rowIs b t 16 (pfc P)) : C16 w b P :=
  ⟨h.cell (by omega), h.cell (by omega), h.cell (by omega), h.cell (by omega), h.cell (by omega), h.cell (by omega), h.cell (by omega), h.cell (by omega), h.cell (by omega), h.cell (by omega), h.cell (by omega), h.cell (by omega), h.cell (by omega), h.cell (by omega), h.cell (by omega), h.cell (by omega)⟩
/-- The first k of the planes. -/
def frt (N : Nat) (G : Nat → Nat) (k : Nat) : Nat → Bt := fun p => if p < k then ob N (G p) 0 else zb
def upd (G : Nat → Nat) (k g : Nat) : Nat → Nat := fun p => if p = k then g else G p
theorem upd_same (G : Nat → Nat) (k g : Nat) : upd G k g k = g := by unfold upd; rw [if_pos rfl]
theorem upd_ne {G : Nat → Nat} {k g p : Nat} (h : p ≠ k) : upd G k g p = G p := by unfold upd; rw [if_neg h]
theorem frt_step {N k g : Nat} {G : Nat → Nat} (j : Nat) : (if j = k * 2 + 1 then Value.slice (some ⟨g, 0, none⟩) (nw N) (nw N) else if j = k * 2 then Value.int .i64 N else pfc (frt N G k) j) = pfc (frt N (upd G k g) (k + 1)) j := by
  unfold pfc frt
  by_cases e1 : j = k * 2 + 1
  · rw [if_pos e1, if_neg (by omega), show j / 2 = k by omega, if_pos (by omega), upd_same]
  · rw [if_neg e1]
    by_cases e2 : j = k * 2
    · rw [if_pos e2, if_pos (by omega), show j / 2 = k by omega, if_pos (by omega)]
    · have e3 : ¬ j / 2 = k := by omega
      have e4 : (j / 2 < k + 1) ↔ (j / 2 < k) := by omega
      rw [if_neg e2, upd_ne e3]
      simp only [e4]
end Go.Proofs.Ytlocmnaojebogaa
/- Numbers. -/
namespace Go.Proofs.Ytlocmnaojebogaa
open Go.RowKit
attribute [local go_sem ↓] Go.wp_at_zero Go.wp_at_succ

def aF (P : Nat → Bt) (len : Int) : Bool := (List.range 8).all fun p => ftB (P p).n (P p).m (P p).N len
theorem aF_iff (P : Nat → Bt) (len : Int) : aF P len = true ↔ ∀ p, p < 8 → ftB (P p).n (P p).m (P p).N len = true := by simp [aF, List.all_eq_true]
def nmE (A B : Bt) (P : Nat → Bt) : Int := if dck A B ≠ 0 then dck A B else if aF P A.n = true then 0 else 20
def nmV (A B : Bt) (P : Nat → Bt) : Int := if nmE A B P = 0 then npl A.N B.N (fun p => (P p).N) A.n.toNat 8 else 0
theorem nmE_bad {A B : Bt} {P : Nat → Bt} (h : dck A B ≠ 0) : nmE A B P = dck A B := by unfold nmE; rw [if_pos h]
theorem nmV_bad {A B : Bt} {P : Nat → Bt} (h : nmE A B P ≠ 0) : nmV A B P = 0 := by unfold nmV; rw [if_neg h]
theorem eight {p : Nat → Prop} {i : Nat} (h : i < 8) (h0 : p 0) (h1 : p 1) (h2 : p 2) (h3 : p 3) (h4 : p 4) (h5 : p 5) (h6 : p 6) (h7 : p 7) : p i := by
  match i, h with
  | 0, _ => exact h0
  | 1, _ => exact h1
  | 2, _ => exact h2
  | 3, _ => exact h3
  | 4, _ => exact h4
  | 5, _ => exact h5
  | 6, _ => exact h6
  | 7, _ => exact h7
theorem pw_bd {p : Nat} (h : p < 8) : -128 ≤ pw p ∧ pw p ≤ 64 := eight (p := fun p => -128 ≤ pw p ∧ pw p ≤ 64) h (by decide) (by decide) (by decide) (by decide) (by decide) (by decide) (by decide) (by decide)
theorem mul_bd {a b : Int} {n : Nat} (ha : -128 ≤ a ∧ a ≤ 64) (hb : -(n : Int) ≤ b ∧ b ≤ n) : -(128 * (n : Int)) ≤ a * b ∧ a * b ≤ 128 * n := by
  have h1 : (a * b).natAbs ≤ 128 * n := by
    rw [Int.natAbs_mul]
    exact Nat.mul_le_mul (by omega) (by omega)
  omega
theorem npl_bd (S M : Nat) (P : Nat → Nat) (n : Nat) : ∀ q : Nat, q ≤ 8 → -(128 * (q : Int) * n) ≤ npl S M P n q ∧ npl S M P n q ≤ 128 * (q : Int) * n
  | 0, _ => by simp [npl]
  | q + 1, h => by
    have := npl_bd S M P n q (by omega)
    have := mul_bd (pw_bd (show q < 8 by omega)) (tq_bd (M &&& P q) S (P q) n)
    have e : 128 * ((q + 1 : Nat) : Int) * n = 128 * (q : Int) * n + 128 * n := by
      rw [Int.natCast_add, Int.mul_add, Int.add_mul]; simp
    simp only [npl]; rw [e]; omega
theorem npl_lim (S M : Nat) (P : Nat → Nat) {n q : Nat} (hn : n ≤ 16777216) (hq : q ≤ 8) : -17179869184 ≤ npl S M P n q ∧ npl S M P n q ≤ 17179869184 := by
  have := npl_bd S M P n q hq
  have h1 : 128 * (q : Int) * n ≤ 17179869184 := by
    have h2 : 128 * q * n ≤ 128 * 8 * 16777216 := Nat.mul_le_mul (Nat.mul_le_mul (Nat.le_refl _) hq) hn
    have h3 : ((128 * q * n : Nat) : Int) = 128 * (q : Int) * n := by simp
    omega
  omega

theorem qp_new (w : World) (A B : Bt) (P : Nat → Bt) (t u : TypeId) : ((w.alloc (.cells #[.int .i64 A.n, .slice A.ao A.m A.cap, .int .i64 B.n, .slice B.ao B.m B.cap] t)).alloc (.cells #[.int .i64 (P 0).n, .slice (P 0).ao (P 0).m (P 0).cap, .int .i64 (P 1).n, .slice (P 1).ao (P 1).m (P 1).cap, .int .i64 (P 2).n, .slice (P 2).ao (P 2).m (P 2).cap, .int .i64 (P 3).n, .slice (P 3).ao (P 3).m (P 3).cap, .int .i64 (P 4).n, .slice (P 4).ao (P 4).m (P 4).cap, .int .i64 (P 5).n, .slice (P 5).ao (P 5).m (P 5).cap, .int .i64 (P 6).n, .slice (P 6).ao (P 6).m (P 6).cap, .int .i64 (P 7).n, .slice (P 7).ao (P 7).m (P 7).cap] u)).rowIs (w.heap.size + 1) u 16 (pfc P) := by
  have := p_new (w.alloc (.cells #[.int .i64 A.n, .slice A.ao A.m A.cap, .int .i64 B.n, .slice B.ao B.m B.cap] t)) P u
  rw [World.size_alloc] at this
  exact this
theorem kpn {W X : World} {bx t bz u v0 : Nat} {A B : Bt} {C : Bt} {k : Nat} (h1 : W.rowIs bx t 4 (qf A B)) (h2 : W.rowIs bz u 2 (sf C.n C.ao C.m C.cap)) (h3 : W.cell? ⟨v0, k, none⟩ = some (.int .i64 (pw k))) (hb : Below W.heap.size W X) :
    (X.cell? ⟨bx, 0, none⟩ = some (.int .i64 A.n) ∧ X.cell? ⟨bx, 1, none⟩ = some (.slice A.ao A.m A.cap) ∧ X.cell? ⟨bx, 2, none⟩ = some (.int .i64 B.n) ∧ X.cell? ⟨bx, 3, none⟩ = some (.slice B.ao B.m B.cap)) ∧ (X.cell? ⟨bz, 0, none⟩ = some (.int .i64 C.n) ∧ X.cell? ⟨bz, 1, none⟩ = some (.slice C.ao C.m C.cap)) ∧ X.cell? ⟨v0, k, none⟩ = some (.int .i64 (pw k)) := by
  have r := keepr hb h1
  have s := keepr hb h2
  exact ⟨⟨q0 r, q1 r, q2 r, q3 r⟩, ⟨sf_len s, sf_ws s⟩, keepc hb h3⟩
end Go.Proofs.Ytlocmnaojebogaa
/- begun. -/
namespace Go.Proofs.Ytlocmnaojebogaa
open Go.RowKit

/-- Rows of four bits. -/
abbrev o4 (g N : Nat) : Bt := ⟨4, some ⟨g, 0, none⟩, 1, 1, N⟩
theorem ob4 (g N : Nat) : ob 4 g N = o4 g N := rfl
theorem four_in {l : List Int} {p : Int → Prop} (h0 : p (ia l 0)) (h1 : p (ia l 1)) (h2 : p (ia l 2)) (h3 : p (ia l 3)) : ∀ i, i < 4 → p (ia l i) := by
  intro i hi
  match i, hi with
  | 0, _ => exact h0
  | 1, _ => exact h1
  | 2, _ => exact h2
  | 3, _ => exact h3
theorem r8_four {w : World} {t : TypeId} (a b c d : Int) : R8 (w.alloc (.cells #[.int .i8 a, .int .i8 b, .int .i8 c, .int .i8 d] t)) (some ⟨w.heap.size, 0, none⟩) [a, b, c, d] := by
  intro k hk
  refine ⟨w.heap.size, 0, rfl, ?_⟩
  rcases k with _ | _ | _ | _ | k
  · simp [go_sem, ia]
  · simp [go_sem, ia]
  · simp [go_sem, ia]
  · simp [go_sem, ia]
  · simp at hk; omega
theorem pack4 (l : List Int) (S M : Nat) (hl : l.length = 4) (hw : Wok l 4) (hS : pk l 4 = S) (hM : bn (nz l) 4 = M) (ao : Option Addr) (cap : Nat) (w : World) (h : R8 w ao l) :
    Calls Try.prog 10 #[.slice ao 4 cap] w fun e w' => ∃ g1 g2, e = .returned (.tuple #[rwv (o4 g1 S) (o4 g2 M), .int .i64 0]) ∧ w.heap.size ≤ g1 ∧ g1 < g2 ∧ w'.rowIs g1 98 1 (wf S) ∧ w'.rowIs g2 98 1 (wf M) ∧ Below w.heap.size w w' := by
  refine (dpack_any l 4 hl ao cap w (by decide) h).mono ?_
  rintro e w' (⟨_, g1, g2, rfl, h1, h2, h3, h4, h5⟩ | ⟨hno, _⟩)
  · rw [hS] at h3 ⊢
    rw [hM] at h4 ⊢
    exact ⟨g1, g2, rfl, h1, h2, h3, h4, h5⟩
  · exact absurd hw hno
theorem rw4 {w : World} {g N : Nat} (h : w.rowIs g 98 1 (wf N)) (hN : N < 16) : Rw w (o4 g N) :=
  ⟨by show N < 2 ^ (64 * 1); omega, by show 1 ≤ _; decide, fun k hk => ⟨g, 0, rfl, by rw [Nat.zero_add]; exact h.cell hk⟩⟩
theorem wok1 : Wok [1, 0, -1, 1] 4 := four_in (p := fun x => -1 ≤ x ∧ x ≤ 1) (by decide) (by decide) (by decide) (by decide)
theorem wok2 : Wok [0, 1, 1, -1] 4 := four_in (p := fun x => -1 ≤ x ∧ x ≤ 1) (by decide) (by decide) (by decide) (by decide)
theorem bn4_lt (f : Nat → Bool) : bn f 4 < 16 := bn_lt f 4
theorem w_one (w : World) (o : Obj) (t : TypeId) : ((w.alloc o).alloc (.cells #[.int .u64 1] t)).rowIs (w.heap.size + 1) t 1 (wf 1) := by
  have h : ((w.alloc o).alloc (.cells #[.int .u64 1] t)).rowIs (w.alloc o).heap.size t 1 (wf 1) := World.rowIs_alloc (w.alloc o) _ t _ (fun i hi => by
    rcases i with _ | i
    · rfl
    · simp at hi)
  rw [World.size_alloc] at h
  exact h
theorem sg4 {g1 g2 g : Nat} : sgV (o4 g1 9) (o4 g2 13) (o4 g 1) = 1 := by kernel_rfl
theorem sg4e {g1 g2 g : Nat} : sgE (o4 g1 9) (o4 g2 13) (o4 g 1) = 0 := by kernel_rfl
theorem so4 {g1 g2 g3 g4 : Nat} : soV (o4 g1 9) (o4 g2 13) (o4 g3 6) (o4 g4 14) = -2 := by kernel_rfl
theorem so4e {g1 g2 g3 g4 : Nat} : soE (o4 g1 9) (o4 g2 13) (o4 g3 6) (o4 g4 14) = 0 := by kernel_rfl
theorem nm4 {g1 g2 : Nat} {G : Nat → Nat} : nmV (o4 g1 9) (o4 g2 13) (fun p => o4 (G p) (bn (plb [5, 9, -7, -128] p) 4)) = -116 := by kernel_rfl
theorem nm4e {g1 g2 : Nat} {G : Nat → Nat} : nmE (o4 g1 9) (o4 g2 13) (fun p => o4 (G p) (bn (plb [5, 9, -7, -128] p) 4)) = 0 := by kernel_rfl
end Go.Proofs.Ytlocmnaojebogaa
/- Lists of small numbers: own, copied, grown; tame, even, sameSmall. -/
namespace Go.Proofs.Ytlocmnaojebogaa
open Go.RowKit

def rowL (f : Nat → Value) (m : Nat) : List Value := (List.range m).map f
theorem rowL_len (f : Nat → Value) (m : Nat) : (rowL f m).length = m * 1 := by simp [rowL]
theorem rowL_get {f : Nat → Value} {m j : Nat} {u : Value} (h : (rowL f m)[j]? = some u) : j < m ∧ u = f j := by
  unfold rowL at h
  rw [List.getElem?_map, Option.map_eq_some_iff] at h
  obtain ⟨x, hx, rfl⟩ := h
  obtain ⟨h1, h2⟩ := List.getElem?_eq_some_iff.1 hx
  simp at h1 h2
  subst h2
  exact ⟨h1, rfl⟩
theorem rowL_at {f : Nat → Value} {m j : Nat} (h : j < m) (v : Value) : (rowL f m ++ [v])[j]? = some (f j) := by
  rw [List.getElem?_append_left (by simpa [rowL] using h)]
  simp [rowL, h]
theorem rowL_last (f : Nat → Value) (m : Nat) (v : Value) : (rowL f m ++ [v])[m]? = some v := by
  rw [List.getElem?_append_right (by simp [rowL])]
  simp [rowL]
theorem rowL_wf {N m : Nat} : ∀ u ∈ rowL (wf N) m, u.oneCell' = true := by
  intro u hu
  obtain ⟨j, hj, e⟩ := List.getElem_of_mem hu
  obtain ⟨_, rfl⟩ := rowL_get (List.getElem?_eq_some_iff.2 ⟨hj, e⟩)
  rfl
/-- An own row, as a row of cells. -/
theorem own_row {w : World} {base e : Nat} {v : Value} {n : Nat} {xs : List Value} (h : w.ownsRow base e 1 v n xs) (hn : 0 < n) :
    ∃ g cap f, v = .slice (some ⟨g, 0, none⟩) n cap ∧ base ≤ g ∧ n ≤ cap ∧ cap ≤ maxLen ∧ w.rowIs g e cap f ∧ ∀ k, k < n → xs[k]? = some (f k) := by
  rcases h.2 with ⟨_, h0⟩ | ⟨g, cap, cur, hv, hb, hg, h4, h5, h6, h7⟩
  · omega
  · refine ⟨g, cap, fun k => cur[k]?.getD undef, hv, hb, h4, h5, ⟨cur, hg, by omega, fun i hi => ?_⟩, fun k hk => ?_⟩
    · simp [Array.getElem?_eq_getElem (show i < cur.size by omega)]
    · rw [← h7, Nat.mul_one, List.getElem?_take_of_lt hk]
      simp [Array.getElem?_eq_getElem (show k < cur.size by omega)]

def i8s (l : List Int) : List Value := l.map (Value.int .i8)
theorem i8s_len (l : List Int) : (i8s l).length = l.length * 1 := by simp [i8s]
theorem i8s_get {l : List Int} {j : Nat} {u : Value} (h : (i8s l)[j]? = some u) : j < l.length ∧ u = .int .i8 (ia l j) := by
  unfold i8s at h
  rw [List.getElem?_map, Option.map_eq_some_iff] at h
  obtain ⟨x, hx, rfl⟩ := h
  obtain ⟨h1, _⟩ := List.getElem?_eq_some_iff.1 hx
  refine ⟨h1, ?_⟩
  unfold ia
  rw [List.getD_eq_getElem?_getD, hx]
  rfl
theorem i8s_at {l : List Int} {j : Nat} (h : j < l.length) : (i8s l)[j]? = some (.int .i8 (ia l j)) := by
  unfold i8s ia
  rw [List.getElem?_map, List.getD_eq_getElem?_getD, List.getElem?_eq_getElem h]
  rfl
theorem i8s_one {l : List Int} : ∀ u ∈ i8s l, u.oneCell' = true := by
  intro u hu
  unfold i8s at hu
  obtain ⟨x, _, rfl⟩ := List.mem_map.1 hu
  rfl
theorem i8s_snoc (l : List Int) (x : Int) : i8s (l ++ [x]) = i8s l ++ [.int .i8 x] := by simp [i8s]
theorem r8_add {w : World} {a : Addr} {l : List Int} (h : R8 w (some a) l) {j : Nat} (hj : j < l.length) : w.cell? (a.add j) = some (.int .i8 (ia l j)) := by
  obtain ⟨g, o, e, c⟩ := h j hj
  obtain rfl : a = ⟨g, o, none⟩ := Option.some.inj e
  by_cases h0 : j = 0
  · subst h0; exact c
  · simp [Addr.add, h0, c]
theorem r8_take {w : World} {ao : Option Addr} {l : List Int} (h : R8 w ao l) (n : Nat) : R8 w ao (l.take n) := by
  intro k hk
  have hk' : k < n ∧ k < l.length := by simp at hk; omega
  obtain ⟨g, o, e, c⟩ := h k hk'.2
  exact ⟨g, o, e, by rw [ia_take hk'.1]; exact c⟩
/-- An own row of small numbers reads as they do. -/
theorem r8_own {w : World} {base : Nat} {v : Value} {l : List Int} (h : w.ownsRow base 28 1 v l.length (i8s l)) : ∃ ao cap, v = .slice ao l.length cap ∧ l.length ≤ cap ∧ cap ≤ maxLen ∧ (ao = none → l.length = 0 ∧ cap = 0) ∧ (∀ a, ao = some a → ∃ g, a = ⟨g, 0, none⟩) ∧ R8 w ao l := by
  rcases Nat.eq_zero_or_pos l.length with h0 | h0
  · rcases h.2 with ⟨h1, _⟩ | ⟨g, cap, cur, hv, _, _, h4, h5, _⟩
    · exact ⟨none, 0, by rw [h0]; exact h1, by omega, by simp [maxLen], fun _ => ⟨h0, rfl⟩, fun _ e => (by cases e), fun k hk => absurd hk (by omega)⟩
    · exact ⟨_, cap, hv, h4, h5, fun e => (by cases e), fun a e => ⟨g, (Option.some.inj e).symm⟩, fun k hk => absurd hk (by omega)⟩
  · obtain ⟨g, cap, f, hv, _, h4, h5, hr, hf⟩ := own_row h h0
    refine ⟨_, cap, hv, h4, h5, fun e => (by cases e), fun a e => ⟨g, (Option.some.inj e).symm⟩, fun k hk => ⟨g, 0, rfl, ?_⟩⟩
    rw [Nat.zero_add]
    refine (hr.cell (by omega)).trans ?_
    have := hf k hk
    rw [i8s_at hk] at this
    exact congrArg some (Option.some.inj this).symm

theorem app_nil {ops : Array Oper} {rest : List Oper} {o : Oper} {a : Act} {Q : Exit → Act → World → Prop} {w : World} (hgd : o.guard = none) (s x : Operand)
    (ho : o.op = .call { callee := .builtin .append, args := #[s, x], argTypes := #[27, 27] }) (hs : a.eval s = .slice none 0 0)
    (bo : Option Addr) (l : List Int) (cb : Nat) (hx : a.eval x = .slice bo l.length cb) (hr : R8 w bo l) (hn : bo = none → l.length = 0 ∧ cb = 0) (hM : l.length ≤ 140737488351232)
    (h : ∀ v' w', w'.ownsRow w.heap.size 28 1 v' l.length (i8s l) → Below w.heap.size w w' → wpList Try.prog ops Q rest (a.put o.dst v') w') : wpList Try.prog ops Q (o :: rest) a w := by
  obtain ⟨i0, hi, hz0, hz1, hz2⟩ := info_parts info_i8
  cases bo with
  | none =>
    obtain ⟨h0, rfl⟩ := hn rfl
    rw [h0] at hx
    refine wpList_append_own_none hgd s x _ ho w.heap.size 28 i0 1 und_i8s hi (.slice none 0 0) 0 [] hs (World.ownsRow_nil _ _ _ _) hx (h _ _ ?_ (Below.refl _ _))
    have e : l = [] := List.eq_nil_of_length_eq_zero h0
    subst e
    exact World.ownsRow_nil _ _ _ _
  | some ad =>
    refine wpList_append_own w hgd s x _ ho w.heap.size 28 i0 (.int .i8 0) 1 1 und_i8s hi hz0 hz1 hz2 rfl (by decide) (.slice none 0 0) 0 [] hs (World.ownsRow_nil _ _ _ _) ad l.length cb (i8s l) hx (i8s_len l)
      (fun j u hu => by obtain ⟨h1, rfl⟩ := i8s_get hu; exact r8_add hr h1) i8s_one (by unfold maxLen; omega) (by omega) (Nat.le_refl _) ?_
    intro v' w' h1 h2 _
    rw [Nat.zero_add, List.nil_append] at h1
    exact h v' w' h1 ((Below.refl _ _).grown h2 (Nat.le_refl _) (fun _ e => by cases e))

/-- One small number appended to a list of one's own. -/
theorem app_one {ops : Array Oper} {rest : List Oper} {o : Oper} {a : Act} {Q : Exit → Act → World → Prop} {w : World} (hgd : o.guard = none) (s x : Operand)
    (ho : o.op = .call { callee := .builtin .append, args := #[s, x], argTypes := #[27, 27] }) (base : Nat) (v : Value) (l : List Int) (hs : a.eval s = v) (hown : w.ownsRow base 28 1 v l.length (i8s l))
    (g : Nat) (y : Int) (cb : Nat) (hx : a.eval x = .slice (some ⟨g, 0, none⟩) 1 cb) (hr : w.cell? ⟨g, 0, none⟩ = some (.int .i8 y)) (hM : l.length < 140737488355328) (hb : base ≤ w.heap.size)
    (h : ∀ v' w', w'.ownsRow base 28 1 v' (l.length + 1) (i8s (l ++ [y])) → w.grownBy w' v.ownBlock → wpList Try.prog ops Q rest (a.put o.dst v') w') : wpList Try.prog ops Q (o :: rest) a w := by
  obtain ⟨i0, hi, hz0, hz1, hz2⟩ := info_parts info_i8
  refine wpList_append_own w hgd s x _ ho base 28 i0 (.int .i8 0) 1 1 und_i8s hi hz0 hz1 hz2 rfl (by decide) v l.length (i8s l) hs hown ⟨g, 0, none⟩ 1 cb [.int .i8 y] hx rfl
    (fun j u hu => ?_) (fun u hu => by simp at hu; subst hu; rfl) (by unfold maxLen; omega) (by omega) hb ?_
  · rcases j with _ | j
    · simp at hu; subst hu; exact hr
    · simp at hu
  · intro v' w' h1 h2 _
    exact h v' w' (by rw [i8s_snoc]; exact h1) h2

/-- Made weights. -/
def tml (l : List Int) : List Int := l.map fun x => x.tmod 2
theorem ia_snoc {l : List Int} {k : Nat} (h : k < l.length) : l.take (k + 1) = l.take k ++ [ia l k] := by
  rw [List.take_succ_eq_append_getElem h]
  congr 2
  unfold ia
  simp [List.getD, h]
theorem tml_len (l : List Int) : (tml l).length = l.length := by simp [tml]
theorem tml_ia {l : List Int} {k : Nat} (h : k < l.length) : ia (tml l) k = (ia l k).tmod 2 := by
  unfold ia tml
  simp [List.getD, h]
theorem tml_take {l : List Int} {k : Nat} (h : k < l.length) : (tml l).take (k + 1) = (tml l).take k ++ [(ia l k).tmod 2] := by
  rw [ia_snoc (by rw [tml_len]; exact h), tml_ia h]
theorem tmod2 (x : Int) : -1 ≤ x.tmod 2 ∧ x.tmod 2 ≤ 1 := by
  rcases Int.le_total 0 x with h | h
  · rw [Int.tmod_eq_emod_of_nonneg h]; omega
  · obtain ⟨y, rfl⟩ : ∃ y, x = -y := ⟨-x, by omega⟩
    rw [Int.neg_tmod, Int.tmod_eq_emod_of_nonneg (by omega)]; omega
theorem r8_nil {w : World} {ao : Option Addr} {l : List Int} (h : R8 w ao l) (h0 : 0 < l.length) : ∃ g o, ao = some ⟨g, o, none⟩ := by
  obtain ⟨g, o, e, _⟩ := h 0 h0
  exact ⟨g, o, e⟩
end Go.Proofs.Ytlocmnaojebogaa
