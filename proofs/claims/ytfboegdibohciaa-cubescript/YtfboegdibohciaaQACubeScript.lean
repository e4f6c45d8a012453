import Derived.Test.YtfboegdibohciaaBW11
import Derived.ProofKit
import Derived.OpenShut
import Derived.ChangeOld
import Derived.SizedLaws
import Derived.Test.YtfboegdibohciaaBW12
import Derived.ChangeSlices
import Derived.Test.YtfboegdibohciaaKA3
import Derived.Test.YtfboegdibohciaaKA1
import Derived.Test.YtfboegdibohciaaSW5
import Derived.Test.YtfboegdibohciaaKA2
import Derived.Deep.RegionHeld3
import Derived.Deep.DeepCutAuto
import Derived.Maps.AppendAt
/- WHAT EVERY ROW OF THIS SEAT WANTS. -/
namespace Go.Proofs.Ytfboegdibohciaa
open Go.ChangeShapes Go.WideShapes Go.ChangeAt Go.RowKit

theorem own : ownKnob Try.prog.godebug = none := by kernel_rfl
theorem laidOut : laidOutB Try.prog = true := by kernel_rfl
theorem i64_of_wf {x : Int} (h : (Lit.int .i64 x).wf = true) : -9223372036854775808 ≤ x ∧ x ≤ 9223372036854775807 := by
  simp [Lit.wf, IntKind.min, IntKind.max, IntKind.signed, IntKind.bits] at h
  exact ⟨by omega, by omega⟩
end Go.Proofs.Ytfboegdibohciaa
/- PARAMETERS THAT ARE LISTS OF SMALL NUMBERS. -/
namespace Go.Proofs.Ytfboegdibohciaa
open Go.ChangeShapes Go.WideShapes Go.ChangeAt Go.RowKit
set_option maxRecDepth 100000

theorem reach_is : reachBytes = 140737488351232 := by decide
theorem cells_i8 : Try.prog.cellsOf 47 = 1 := by kernel_rfl
theorem bytes_i8 : Try.prog.bytesOf 47 = 1 := by kernel_rfl
theorem open_i8 {H : Type} {enc : TypeId × Value → H} {W : World} {base : Nat} {v : Value} {d : DataW H} {p : List MemPlace}
    (hv : Value.okWide Try.prog W .any base 28 v) (h : DataW.Trod enc Try.prog W 0 (fun _ => true) true 28 v d p) :
    ∃ (ao : Option Addr) (l : List Int) (cap : Nat), v = .slice ao l.length cap ∧ l.length ≤ cap ∧ (ao = none → l.length = 0 ∧ cap = 0) ∧ R8 W ao l ∧
      ((d = .nil ∧ cap = 0) ∨ ∃ es sp, d = .slice es sp ∧ es.length + sp.length = cap) := by
  obtain ⟨a0, len, cap, rfl⟩ := okWide_slice und_i8s hv
  obtain ⟨fuel, hf⟩ := h
  rcases open_ints und_i8s Try.underlying47 cells_i8 hf with ⟨hc, hx⟩ | ⟨a, len', cap', zs, hc, _, hl, _, hz, hx, hcell, _⟩
  · simp [Value.cells] at hc
    obtain ⟨rfl, rfl, rfl⟩ := hc
    simp only [Prod.mk.injEq] at hx
    exact ⟨none, [], 0, rfl, Nat.le_refl _, fun _ => ⟨rfl, rfl⟩, fun k hk => absurd hk (by simp), .inl ⟨hx.1, rfl⟩⟩
  · simp [Value.cells] at hc
    obtain ⟨rfl, rfl, rfl⟩ := hc
    simp only [if_true] at hz
    simp only [Prod.mk.injEq] at hx
    have hlen : (zs.take len).length = len := by simp; omega
    refine ⟨some a, zs.take len, cap, by rw [hlen], by rw [hlen]; exact hl, fun e => (by cases e), ?_, .inr ⟨_, _, hx.1, by simp [lits]; omega⟩⟩
    intro k hk
    rw [hlen] at hk
    have c := hcell k (by omega)
    have c0 := hcell 0 (by omega)
    have hs := World.cell?_spot c0
    obtain ⟨b, o, s⟩ := a
    simp [Addr.add] at hs
    subst hs
    refine ⟨b, o, rfl, ?_⟩
    have e1 : ia (zs.take len) k = zs.getD k 0 := ia_take hk
    rw [e1, ← c]
    by_cases h0 : k = 0
    · subst h0; rfl
    · simp [Addr.add, h0]
end Go.Proofs.Ytfboegdibohciaa
/- BOTH Turns, of every row. -/
namespace Go.Proofs.Ytfboegdibohciaa
open Go.RowKit Go.Shelf

/-- What is answered: shape, words, the number that they make. -/
def tS (n : Int) (m N : Nat) : Int × Int × Int × Nat × Nat := if tuE n m N = 0 then (1, 1, n, m, N) else (0, 0, 0, 0, 0)
theorem tuE_zero {n : Int} {m N : Nat} (h : tuE n m N = 0) : ∃ k : Nat, n = k ∧ (1 ≤ k ∧ k ≤ 4096) ∧ m = nw k ∧ N < 2 ^ k := by
  unfold tuE at h
  by_cases h0 : chk n m N = 0
  · rw [if_pos h0] at h
    obtain ⟨k, rfl, h1, h2, h3⟩ := chk_zero h0
    by_cases h4 : (k : Int) < 1 ∨ 4096 < (k : Int)
    · rw [if_pos h4] at h; omega
    · exact ⟨k, rfl, by omega, h2, h3⟩
  · rw [if_neg h0] at h; exact absurd h h0
theorem rturn_bad (n : Int) (ao : Option Addr) (m cap N : Nat) (w : World) (rd : Wr w ao m N) (k : tuE n m N ≠ 0) :
    Calls Try.prog 27 #[rv n ao m cap] w fun e w' => e = .returned (.tuple #[cuv 0 0 0 none 0 0, .int .i64 (tuE n m N)]) ∧ Below w.heap.size w w' := by
  by_cases h1 : n < 0
  · have e : tuE n m N = 1 := by unfold tuE chk; rw [if_pos h1]; rfl
    rw [e]; exact rturn_small n ao m cap w 1 (.inl ⟨h1, rfl⟩)
  by_cases h2 : 16777216 < n
  · have e : tuE n m N = 2 := by unfold tuE chk; rw [if_neg h1, if_pos h2]; rfl
    rw [e]; exact rturn_small n ao m cap w 2 (.inr ⟨h2, rfl⟩)
  obtain ⟨n, rfl⟩ := Int.eq_ofNat_of_zero_le (Int.not_lt.1 h1)
  have h3 : n ≤ 16777216 := by omega
  by_cases h4 : m = nw n
  · by_cases h5 : N < 2 ^ n
    · have e0 : chk n m N = 0 := by rw [h4]; exact chk_ok h3 h5
      have ho : n < 1 ∨ 4096 < n := by
        unfold tuE at k
        rw [if_pos e0] at k
        by_cases hq : (n : Int) < 1 ∨ 4096 < (n : Int)
        · omega
        · rw [if_neg hq] at k; exact absurd rfl k
      have e : tuE n m N = 30 := by unfold tuE; rw [if_pos e0, if_pos (by omega)]
      rw [e]; exact rturn_shape n ao m cap w h3 h4 ho (fun W hb => lw_of h4 h5 (rd.below hb))
    · have h0 : 0 < n := by
        rcases Nat.eq_zero_or_pos n with z | z
        · subst z
          have := rd.1
          rw [h4] at this
          exact absurd this h5
        · exact z
      have hr : n % 64 ≠ 0 := by
        intro hr
        have e1 : 64 * nw n = n := by unfold nw; omega
        have := rd.1
        rw [h4, e1] at this
        exact h5 this
      have ec : chk n m N = 20 := by
        unfold chk
        rw [if_neg h1, if_neg h2, Int.toNat_natCast, if_neg (fun q => q h4), if_neg h5]
      have e : tuE n m N = 20 := by unfold tuE; rw [ec, if_neg (by decide)]
      rw [e]
      have hm0 : 0 < m := by rw [h4]; unfold nw; omega
      obtain ⟨g, o, rfl, _⟩ := rd.2 0 hm0
      exact rturn_bit n g o m cap N w h3 h0 h4 hr h5 rd
  · have ec : chk n m N = 20 := by
      unfold chk
      rw [if_neg h1, if_neg h2, Int.toNat_natCast, if_pos h4]
    have e : tuE n m N = 20 := by unfold tuE; rw [ec, if_neg (by decide)]
    rw [e]; exact rturn_len n ao m cap w h3 h4
theorem turn_all (n : Int) (ao : Option Addr) (m cap N : Nat) (w : World) (hm : m ≤ 9223372036854775807) (rd : Wr w ao m N) (h v c : Int) (k P : Nat) (E : Int) (hE : tuE n m N = E) (hS : tS n m N = (h, v, c, k, P)) :
    Calls Try.prog 21 #[rv n ao m cap] w fun e w' => ∃ bo K, e = .returned (.tuple #[cuv h v c bo k K, .int .i64 E]) ∧ Wr w' bo k P ∧ Below w.heap.size w w' := by
  subst hE
  unfold tS at hS
  by_cases h0 : tuE n m N = 0
  · rw [if_pos h0] at hS
    cases hS
    obtain ⟨q, rfl, hq, e1, e2⟩ := tuE_zero h0
    have hm0 : 0 < m := by rw [e1]; unfold nw; omega
    obtain ⟨g, o, rfl, _⟩ := rd.2 0 hm0
    refine (turn_ok q g o m cap N w hq e1 e2 rd).mono ?_
    rintro e w' ⟨G, K, rfl, _, _, _, _, wr, hb⟩
    exact ⟨_, _, by rw [h0], wr, hb⟩
  · rw [if_neg h0] at hS
    cases hS
    refine (turn_bad n ao m cap N w hm rd h0).mono ?_
    rintro e w' ⟨rfl, hb⟩
    exact ⟨_, _, rfl, Wr.nil _ _, hb⟩
theorem rturn_all (n : Int) (ao : Option Addr) (m cap N : Nat) (w : World) (rd : Wr w ao m N) (h v c : Int) (k P : Nat) (E : Int) (hE : tuE n m N = E) (hS : tS n m N = (h, v, c, k, P)) :
    Calls Try.prog 27 #[rv n ao m cap] w fun e w' => ∃ bo K, e = .returned (.tuple #[cuv h v c bo k K, .int .i64 E]) ∧ Wr w' bo k P ∧ Below w.heap.size w w' := by
  subst hE
  unfold tS at hS
  by_cases h0 : tuE n m N = 0
  · rw [if_pos h0] at hS
    cases hS
    obtain ⟨q, rfl, hq, e1, e2⟩ := tuE_zero h0
    have hm0 : 0 < m := by rw [e1]; unfold nw; omega
    obtain ⟨g, o, rfl, _⟩ := rd.2 0 hm0
    refine (rturn_ok q g o m cap N w (by omega) hq e1 e2 rd).mono ?_
    rintro e w' ⟨G, K, rfl, _, _, _, wr, hb⟩
    exact ⟨_, _, by rw [h0], wr, hb⟩
  · rw [if_neg h0] at hS
    cases hS
    refine (rturn_bad n ao m cap N w rd h0).mono ?_
    rintro e w' ⟨rfl, hb⟩
    exact ⟨_, _, rfl, Wr.nil _ _, hb⟩
theorem tS_le {n : Int} {m N : Nat} {h v c : Int} {k P : Nat} (hm : m ≤ 9223372036854775807) (hS : tS n m N = (h, v, c, k, P)) : k ≤ 9223372036854775807 := by
  unfold tS at hS
  split at hS <;> cases hS <;> omega
end Go.Proofs.Ytfboegdibohciaa
/- THE LAWS' OWN WORDS: values with marks behind them. -/
namespace Go.Proofs.Ytfboegdibohciaa
open Go.RowKit Go.Shelf

/-- What Roomy makes: the words, and marks behind them. -/
def rvf (N : Nat → Int) (n : Nat) : Nat → Value := fun k => if k < n then .int .i8 (N k) else .int .i8 ((60 + k - n : Nat) : Int)
/-- .. as far as i. -/
def rvp (N : Nat → Int) (n i : Nat) : Nat → Value := fun k => if k < i then rvf N n k else .int .i8 0
theorem rvp_step (N : Nat → Int) (n i j : Nat) : (if j = i then rvf N n i else rvp N n i j) = rvp N n (i + 1) j := by
  unfold rvp
  by_cases h : j = i
  · subst h; rw [if_pos rfl, if_pos (by omega)]
  · rw [if_neg h]
    by_cases h2 : j < i
    · rw [if_pos h2, if_pos (by omega)]
    · rw [if_neg h2, if_neg (by omega)]
theorem mark8 {k n : Nat} (h : n ≤ k) (hk : k < n + 66) (_hn : n ≤ 140737488351232) : IntKind.i8.wrap (IntKind.i64.wrap (IntKind.i64.wrap (60 + (k : Int)) - (n : Int))) = ((60 + k - n : Nat) : Int) := by
  have e : IntKind.i64.wrap (IntKind.i64.wrap (60 + (k : Int)) - (n : Int)) = ((60 + k - n : Nat) : Int) := by rw [IntKind.wrap_i64, IntKind.wrap_i64]; omega
  rw [e]
  obtain ⟨x, hx⟩ : ∃ x, 60 + k - n = x := ⟨_, rfl⟩
  have hx2 : x < 126 := by omega
  rw [hx]
  have hm : (x : Int) % 256 = x := by omega
  simp [IntKind.wrap, IntKind.bits, IntKind.signed, hm]
  omega
set_option maxHeartbeats 1600000 in
set_option maxRecDepth 100000 in
theorem wide8_any (n : Nat) (N : Nat → Int) (ao : Option Addr) (ca : Nat) (w : World) (hn : n ≤ 140737488351232) (rd : Rs w ao n (fun k => .int .i8 (N k))) :
    Calls Try.prog 17 #[.slice ao n ca] w fun e w' => ∃ G, e = .returned (.slice (some ⟨G, 0, none⟩) n (n + 66)) ∧ w.heap.size ≤ G ∧ w'.rowIs G 47 (n + 66) (rvf N n) ∧ Below w.heap.size w w' := by
  obtain ⟨i0, hi, hz0, hz1, hz2⟩ := info_parts info_i8k
  have RD := hid1 rd
  clear rd
  have r1 : IntKind.i64.wrap ((n : Int) + 66) = ((n + 66 : Nat) : Int) := by rw [IntKind.wrap_i64]; omega
  have r2 : (n : Int) + 66 = ((n + 66 : Nat) : Int) := by omega
  have HM := hid1 (fun k h hk => mark8 (k := k) (n := n) h hk hn)
  obtain ⟨T, hT⟩ : ∃ T, n + 66 = T := ⟨_, rfl⟩
  rw [hT] at r1 r2 ⊢
  have hT1 : T = n + 66 := hT.symm
  have HT := hid1 hT1
  have hnT : n < T := by omega
  have hTb : T ≤ 140737488351298 := by omega
  clear hT hT1
  go_enter Try.func17, Try.ntmps17
  go_wp2_with (refine wpList_make_row _ rfl _ _ 28 rfl 47 i0 (.int .i8 0) und_i8sk hi hz0 hz1 rfl .i64 .i64 T (by go_simp) (by go_simp) (by rw [hz2]; omega) (by omega) ?_)
  have hrow : (w.alloc (.cells (madeCells #[.int .i8 0] T) 47)).rowIs w.heap.size 47 T (rvp N n 0) := (World.rowIs_made w (.int .i8 0) T 47).congr fun k _ => by simp [rvp]
  go_loopw [5] (fun i wr => ∃ k : Nat, k ≤ T ∧ i = .int .i64 k ∧ wr.rowIs w.heap.size 47 T (rvp N n k) ∧ Below w.heap.size w wr) (fun i _ => T - (intOf i).toNat)
  case atStart => exact ⟨0, Nat.zero_le _, rfl, hrow, bl_alloc (Below.refl _ _) _⟩
  case round =>
    clear hrow
    obtain ⟨k, hk, rfl, hrow, hnx⟩ := hrel
    by_cases hlt : k < T
    · have ik : (k : Int) < (T : Nat) := by omega
      have ik0 : (0 : Int) ≤ (k : Int) := by omega
      have cw := hrow.cell hlt
      have fw := hrow.frozen k
      have HH := hid1 hrow
      clear hrow
      generalize rvp N n k k = old at cw
      obtain ⟨y, hy⟩ : ∃ y, IntKind.i8.wrap (IntKind.i64.wrap (IntKind.i64.wrap (60 + (k : Int)) - (n : Int))) = y := ⟨_, rfl⟩
      have HYY := hid1 hy
      by_cases hkn : k < n
      · have ikn : (k : Int) < (n : Nat) := by omega
        obtain ⟨ga, oa, rfl, c8⟩ := (RD.out.below hnx) k hkn
        have lga : ga < w.heap.size := by
          obtain ⟨g', o', e, c⟩ := RD.out k hkn
          cases e
          exact lt_of_cell c
        have nga : ga ≠ w.heap.size := by omega
        generalize hNk : N k = nk at c8
        have HNK := hid1 hNk
        clear hNk
        go_wp2_with fail
        refine ⟨⟨k + 1, by omega, by go_num, ((HH.out.set k _).set k _).congr fun j _ => ?_, bl_set (bl_set hnx (Nat.le_refl _) _) (Nat.le_refl _) _⟩, by simp [intOf]; omega⟩
        rw [← rvp_step]
        by_cases e : j = k
        · subst e; rw [if_pos rfl, if_pos rfl]; unfold rvf; rw [if_pos hkn, HNK.out]
        · rw [if_neg e, if_neg e, if_neg e]
      · have ikn : ¬ (k : Int) < (n : Nat) := by omega
        have HV := hid1 (HM.out k (by omega) (by have := HT.out; omega))
        rw [hy] at HV
        go_wp2_with fail
        refine ⟨⟨k + 1, by omega, by go_num, (HH.out.set k _).congr fun j _ => ?_, bl_set hnx (Nat.le_refl _) _⟩, by simp [intOf]; omega⟩
        rw [← rvp_step]
        by_cases e : j = k
        · subst e; rw [if_pos rfl, if_pos rfl]; unfold rvf; rw [if_neg hkn]; congr 1; omega
        · rw [if_neg e, if_neg e]
    · have hkT : k = T := by omega
      subst hkT
      have HH : Hid (wr.rowIs w.heap.size 47 k (rvf N n)) := hid1 (hrow.congr fun j hj => by unfold rvp; rw [if_pos hj])
      have i3 : (n : Int) ≤ (k : Int) := by omega
      have i4 : (0 : Int) ≤ (n : Int) := by omega
      clear hrow
      go_wp2_with fail
      go_ret
      exact ⟨w.heap.size, rfl, Nat.le_refl _, HH.out, hnx⟩
theorem rv_rs {w : World} {G n : Nat} {N : Nat → Int} (h : w.rowIs G 47 (n + 66) (rvf N n)) : Rs w (some ⟨G, 0, none⟩) n (fun k => .int .i8 (N k)) :=
  fun k hk => ⟨G, 0, rfl, by rw [Nat.zero_add, h.cell (i := k) (by omega)]; unfold rvf; rw [if_pos hk]⟩
end Go.Proofs.Ytfboegdibohciaa
/- SHAPES: THE DOCUMENT'S OWN INDEX, PLACE, WINDOW, STEPS, WALKED. -/
namespace Go.Proofs.Ytfboegdibohciaa.Sg
open Go.RowKit

theorem div_is {a b q r : Int} (h : a = q * b + r) (h1 : 0 ≤ r) (h2 : r < b) : a / b = q ∧ a % b = r :=
  (Int.ediv_emod_unique (by omega)).2 ⟨by rw [h, Int.mul_comm q b]; omega, h1, h2⟩
theorem place_math {i j I m J v c : Int} (h1 : i = j * (v * c) + I) (h2 : I < v * c) (h3 : I = m * c + J) (h4 : 0 ≤ J) (h5 : J < c) (hm : 0 ≤ m) : i / c / v = j ∧ i / c % v = m ∧ i % c = J := by
  have a1 : i = (j * v + m) * c + J := by rw [h1, h3, Int.add_mul, Int.mul_assoc]; omega
  obtain ⟨q, r⟩ := div_is a1 h4 h5
  have hv : m < v := by
    apply Int.lt_of_mul_lt_mul_right (a := c) _ (by omega)
    omega
  obtain ⟨q2, r2⟩ := div_is (a := j * v + m) (b := v) (q := j) (r := m) rfl hm hv
  rw [q, r]
  exact ⟨q2, r2, rfl⟩
end Go.Proofs.Ytfboegdibohciaa.Sg
/- THE DOCUMENT'S OWN Empty, Put. -/
namespace Go.Proofs.Ytfboegdibohciaa
open Go.RowKit Go.Shelf

/-- An element's bit. -/
def bp (V C y x k : Nat) : Nat := 64 * ((y * V + x) * nw C) + k
theorem bp_div {V C y x k : Nat} : bp V C y x k / 64 = (y * V + x) * nw C + k / 64 := by unfold bp; omega
theorem bp_mod {V C y x k : Nat} : bp V C y x k % 64 = k % 64 := by unfold bp; omega
theorem or_wd (N i k : Nat) : wd (N ||| 2 ^ i) k = if k = i / 64 then wd N k ||| 2 ^ (i % 64) else wd N k := by
  rw [wd_or, wd_bit1]
  by_cases h : k = i / 64
  · rw [if_pos h, if_pos h]
  · rw [if_neg h, if_neg h]; simp
theorem gen_world' {K : Act → World → Prop} {Q : Exit → Act → World → Prop} {a : Act} {W : World} (p : World → Prop) (hp : p W) (h : ∀ W', p W' → Exit.then K Q .normal a W') : Exit.then K Q .normal a W := h W hp
set_option maxHeartbeats 1600000 in
set_option maxRecDepth 100000 in
theorem put_any (H V C G M N y x k : Nat) (w : World) (hV : V ≤ 4096) (hC : C ≤ 4096) (hy : y < 4096) (hx : x ≤ 4096) (hk : k < C) (hM : (y * V + x) * nw C + nw C ≤ M) (hM2 : M ≤ 1073741824) (row : w.rowIs G 53 M (wf N)) :
    Calls Try.prog 43 #[cuv H V C (some ⟨G, 0, none⟩) M M, .int .i64 y, .int .i64 x, .int .i64 k] w fun e w' => e = .returned (.tuple #[]) ∧ w'.rowIs G 53 M (wf (N ||| 2 ^ bp V C y x k)) ∧ But G w w' := by
  have HD := hid1 (deep_any C (by omega))
  have hd64 : nw C ≤ 64 := by unfold nw; omega
  have hkd : k / 64 < nw C := by unfold nw; omega
  have HOW := hid1 (fun j => or_wd N (bp V C y x k) j)
  rw [bp_div, bp_mod] at HOW
  have b1 : y * V ≤ 4096 * 4096 := Nat.mul_le_mul (by omega) hV
  have b2 : (y * V + x) * nw C ≤ (4096 * 4096 + 4096) * 64 := Nat.mul_le_mul (by omega) hd64
  generalize hB : bp V C y x k = B at *
  clear hB
  obtain ⟨d, hd⟩ : ∃ d, nw C = d := ⟨_, rfl⟩
  rw [hd] at HD hd64 hkd HOW hM b2
  clear hd
  obtain ⟨u, hu⟩ : ∃ u, y * V = u := ⟨_, rfl⟩
  have p1 : (y : Int) * (V : Int) = (u : Nat) := by rw [← hu]; push_cast; rfl
  rw [hu] at b1 b2 HOW hM
  clear hu
  obtain ⟨v, hv⟩ : ∃ v, (u + x) * d = v := ⟨_, rfl⟩
  have p2 : ((u : Int) + (x : Int)) * (d : Int) = (v : Nat) := by rw [← hv]; push_cast; rfl
  rw [hv] at b2 HOW hM
  clear hv
  obtain ⟨q, hq⟩ : ∃ q, k / 64 = q := ⟨_, rfl⟩
  obtain ⟨r, hr⟩ : ∃ r, k % 64 = r := ⟨_, rfl⟩
  rw [hq] at hkd HOW
  rw [hr] at HOW
  have eq : (k : Int) / 64 = (q : Int) := by omega
  have eq' : (k : Int).tdiv 64 = (q : Int) := by rw [Int.tdiv_eq_ediv_of_nonneg (by omega)]; exact eq
  have er : (k : Int) % 64 = (r : Int) := by omega
  have er' : (k : Int).tmod 64 = (r : Int) := by rw [Int.tmod_eq_emod_of_nonneg (by omega)]; exact er
  have ir0 : (0 : Int) ≤ (r : Int) := by omega
  have ir1 : (r : Int) ≤ 63 := by omega
  have w1 : IntKind.i64.wrap (u : Int) = (u : Int) := by rw [IntKind.wrap_i64]; omega
  have w2 : IntKind.i64.wrap ((u : Int) + (x : Int)) = (u : Int) + (x : Int) := by rw [IntKind.wrap_i64]; omega
  have w3 : IntKind.i64.wrap (v : Int) = (v : Int) := by rw [IntKind.wrap_i64]; omega
  have w4 : IntKind.i64.wrap (q : Int) = (q : Int) := by rw [IntKind.wrap_i64]; omega
  have w5 : IntKind.i64.wrap ((v : Int) + (q : Int)) = ((v + q : Nat) : Int) := by rw [IntKind.wrap_i64]; omega
  have w5' : (v : Int) + (q : Int) = ((v + q : Nat) : Int) := by omega
  have hi : v + q < M := by omega
  have cw := row.cell hi
  have fw := row.frozen (v + q)
  unfold wf at cw
  have hxx := wd_lt N (v + q)
  have H64 : (2 : Nat) ^ r < 18446744073709551616 := by rw [two64]; exact Nat.pow_lt_pow_right (by decide) (by omega)
  have HO : Hid (bits .or .u64 (wd N (v + q) : Nat) (IntKind.u64.wrap (2 ^ r)) = ((wd N (v + q) ||| 2 ^ r : Nat) : Int)) := by
    have e : IntKind.u64.wrap (2 ^ r) = ((2 ^ r : Nat) : Int) := by
      rw [show ((2 : Int) ^ r) = ((2 ^ r : Nat) : Int) by simp, IntKind.wrap_u64]
      generalize 2 ^ r = y at *; omega
    rw [e]; exact or_u64 _ _ hxx H64
  generalize hpp : v + q = p at *
  have ip0 : (0 : Int) ≤ (p : Int) := by omega
  have ip1 : (p : Int) < (M : Int) := by omega
  have lG := row.lt
  have HR := hid1 row
  clear row hq hr hpp H64 hxx
  go_enter Try.func43, Try.ntmps43
  go_wp2_with fail
  go_quiet ((go_at_call 46; exact Calls.quiet_of_same (HD.out _)))
  refine gen_world' (fun X => X.rowIs w.heap.size 31 4 (cf H V C (some ⟨G, 0, none⟩) M M) ∧ X.rowIs G 53 M (wf N) ∧ But G w X) ⟨row_drewN (cu_new w _ _ _ _ _ _ _) nq, row_drewN (HR.out.alloc _) nq, But.drewN (But.of_below (bl_alloc (Below.refl _ _) _)) nq⟩ ?_
  clear cw fw HR
  rintro X ⟨RC, RG, BX⟩
  have e3 := cf3 RC
  have cw := RG.cell (i := p) (by omega)
  unfold wf at cw
  have fw := RG.frozen p
  have HR := hid1 RG
  clear RC RG HD
  go_wp2_with fail
  refine still_tail 13 (by kernel_rfl) ?_
  simp only [List.take_succ_cons, List.take_zero, List.drop_succ_cons, List.drop_zero]
  repeat still_step
  refine wpStill_nil ?_
  go_wp2_with fail
  refine bodyPost_end (v := .tuple #[]) (by simp [results, go_sem]) rfl ⟨rfl, ((HR.out.set p _).congr fun j _ => ?_).drew, (BX.set _).drew⟩
  simp only [wf]
  rw [HOW.out j]
  by_cases e : j = p
  · rw [if_pos e, if_pos e, HO.out]; subst e; rfl
  · rw [if_neg e, if_neg e]
end Go.Proofs.Ytfboegdibohciaa
/- THE DOCUMENT'S OWN Pack. -/
namespace Go.Proofs.Ytfboegdibohciaa
open Go.RowKit Go.Shelf

/-- The words behind so many elements. -/
def qn (l : List Int) (C : Nat) : Nat → Nat
  | 0 => 0
  | i + 1 => qn l C i ||| (if 0 < ia l i then 2 ^ (64 * (i / C * nw C) + i % C) else 0)
theorem qn_bit (l : List Int) {C : Nat} (hC : 0 < C) (b : Nat) : ∀ i, (qn l C i).testBit b = (decide (b % (64 * nw C) < C) && (decide (b / (64 * nw C) * C + b % (64 * nw C) < i) && decide (0 < ia l (b / (64 * nw C) * C + b % (64 * nw C)))))
  | 0 => by simp [qn]
  | i + 1 => by
    have hd : 0 < 64 * nw C := by have : 0 < nw C := (by unfold nw; omega); omega
    have hCd := nw_le C
    have hmod := Nat.mod_lt i hC
    have hpos : 64 * (i / C * nw C) + i % C = b ↔ (b / (64 * nw C) = i / C ∧ b % (64 * nw C) = i % C) := by
      have e1 : 64 * (i / C * nw C) = 64 * nw C * (i / C) := by rw [Nat.mul_assoc, Nat.mul_comm (nw C)]
      constructor
      · rintro rfl
        have hlt : i % C < 64 * nw C := Nat.lt_of_lt_of_le hmod hCd
        rw [e1]
        constructor
        · rw [Nat.mul_add_div hd, Nat.div_eq_of_lt hlt, Nat.add_zero]
        · rw [Nat.mul_add_mod, Nat.mod_eq_of_lt hlt]
      · rintro ⟨h1, h2⟩
        have := Nat.div_add_mod b (64 * nw C)
        rw [h1, h2] at this
        omega
    have hidx : (b / (64 * nw C) = i / C ∧ b % (64 * nw C) = i % C) ↔ (b % (64 * nw C) < C ∧ b / (64 * nw C) * C + b % (64 * nw C) = i) := by
      generalize b / (64 * nw C) = q
      generalize b % (64 * nw C) = r
      constructor
      · rintro ⟨rfl, rfl⟩
        refine ⟨hmod, ?_⟩
        rw [Nat.mul_comm]; exact Nat.div_add_mod i C
      · rintro ⟨h1, rfl⟩
        rw [Nat.mul_comm q C]
        refine ⟨?_, ?_⟩
        · rw [Nat.mul_add_div hC, Nat.div_eq_of_lt h1, Nat.add_zero]
        · rw [Nat.mul_add_mod, Nat.mod_eq_of_lt h1]
    simp only [qn]
    rw [Nat.testBit_or, qn_bit l hC b i]
    generalize hq : b / (64 * nw C) * C + b % (64 * nw C) = e at *
    by_cases h0 : 0 < ia l i
    · rw [if_pos h0, Nat.testBit_two_pow]
      by_cases hb : 64 * (i / C * nw C) + i % C = b
      · obtain ⟨h1, h2⟩ := hidx.1 (hpos.1 hb)
        subst h2
        simp [hb, h1, h0]
      · have hne : ¬ (b % (64 * nw C) < C ∧ e = i) := fun k => hb (hpos.2 (hidx.2 k))
        by_cases h1 : b % (64 * nw C) < C
        · have h2 : ¬ e = i := fun k => hne ⟨h1, k⟩
          have : (e < i + 1) ↔ e < i := by omega
          simp [hb, h1, this]
        · simp [hb, h1]
    · rw [if_neg h0]
      by_cases h2 : e = i
      · subst h2; simp [h0]
      · have : (e < i + 1) ↔ e < i := by omega
        simp [this]
theorem qn_all (l : List Int) {C n : Nat} (hC : 0 < C) : qn l C (n * C) = js (64 * nw C) (sp l C) n := by
  have hd : 0 < 64 * nw C := by have : 0 < nw C := (by unfold nw; omega); omega
  refine Nat.eq_of_testBit_eq fun b => ?_
  rw [qn_bit l hC, js_bit hd n (fun i _ => Nat.lt_of_lt_of_le (sp_lt l C i) (pow_mono (nw_le C))), sp_bit]
  have hlt : b < n * (64 * nw C) ↔ b / (64 * nw C) < n := by rw [Nat.div_lt_iff_lt_mul hd]
  by_cases h1 : b % (64 * nw C) < C
  · have : (b / (64 * nw C) * C + b % (64 * nw C) < n * C) ↔ b < n * (64 * nw C) := by
      rw [hlt]
      generalize b / (64 * nw C) = q
      generalize b % (64 * nw C) = r at *
      constructor
      · intro h
        rcases Nat.lt_or_ge q n with k | k
        · exact k
        · have := Nat.mul_le_mul_right C k; omega
      · intro h
        have := Nat.mul_le_mul_right C h
        rw [Nat.succ_mul] at this
        omega
    simp [h1, this]
  · simp [h1]
set_option maxHeartbeats 1600000 in
set_option maxRecDepth 100000 in
theorem rempty_any (H V C : Nat) (w : World) (k : Sg.chk H V C = 0) (M : Nat) (hM : H * V * nw C = M) (hM2 : M ≤ 1073741824) :
    Calls Try.prog 42 #[Sg.shp H V C] w fun e w' => ∃ G, e = .returned (cuv H V C (some ⟨G, 0, none⟩) M M) ∧ w.heap.size ≤ G ∧ w'.rowIs G 53 M (wf 0) ∧ Below w.heap.size w w' := by
  obtain ⟨i0, hi, hz0, hz1, hz2⟩ := info_parts info_u64
  have HW := hid1 (Sg.rwords_any H V C)
  rw [k, woN_nat k, hM] at HW
  clear hM k
  have hmk : ∀ w, (Instr.makeSlice 29 (.int .i64 (M : Int)) (.int .i64 (M : Int))).run Try.prog w = .ok (.slice (some ⟨w.heap.size, 0, none⟩) M M) (w.alloc (.cells (madeCells #[.int .u64 0] M) 53)) := fun w => run_make_row 29 53 i0 (.int .u64 0) und_u64s hi hz0 hz1 rfl .i64 .i64 M (by rw [hz2]; omega) (by omega) w
  go_enter Try.func42, Try.ntmps42
  go_wp2_with fail
  refine gen_calls (fun W => W.heap.size = w.heap.size + 2 ∧ W.rowIs w.heap.size 27 3 (hf H V C) ∧ W.rowIs (w.heap.size + 1) 31 4 (cf 0 0 0 none 0 0) ∧ Below w.heap.size w W) ⟨by simp, (hf_new w _ _ _ _).alloc _, by have := cu_new (w.alloc (.cells #[.int .i64 H, .int .i64 V, .int .i64 C] 27)) 0 0 0 none 0 0 31; rwa [World.size_alloc] at this, bl_alloc (bl_alloc (Below.refl _ _) _) _⟩ ?_
  rintro W ⟨z0, q0, q1, B0⟩
  refine (HW.out W).mono ?_
  rintro e w1 ⟨rfl, hb⟩
  replace q0 := keepr hb q0
  replace q1 := keepr hb q1
  have B1 := bl_step B0 hb
  have z1 := hb.size
  clear hb B0 HW
  have e0 := hf0 q0
  have e1 := hf1 q0
  have e2 := hf2 q0
  have d0 := cf0 q1
  have d1 := cf1 q1
  have d2 := cf2 q1
  have d3 := cf3 q1
  have f0 := q1.frozen 0
  have f1 := q1.frozen 1
  have f2 := q1.frozen 2
  have f3 := q1.frozen 3
  have n0 : w.heap.size ≠ w1.heap.size := by omega
  have n1 : w.heap.size + 1 ≠ w1.heap.size := by omega
  have l0 := q0.lt
  have l1 := q1.lt
  have hfo := follows
  have HQ := hid1 q1
  have HB := hid1 B1
  clear q0 q1 B1
  go_wp2_with fail
  go_region_with (fail)
  all_goals go_wp2_with fail
  all_goals (
    have hc := ((cf_set HQ.out H V C (some ⟨w1.heap.size, 0, none⟩) M M).alloc (.cells (madeCells #[.int .u64 0] M) 53)).drew
    have m0 := cf0 hc
    have m1 := cf1 hc
    have m2 := cf2 hc
    have m3 := cf3 hc
    have hr := World.rowIs_made ((((w1.setCell ⟨w.heap.size + 1, 0, none⟩ (.int .i64 H)).setCell ⟨w.heap.size + 1, 1, none⟩ (.int .i64 V)).setCell ⟨w.heap.size + 1, 2, none⟩ (.int .i64 C)).setCell ⟨w.heap.size + 1, 3, none⟩ (.slice (some ⟨w1.heap.size, 0, none⟩) M M)) (.int .u64 0) M 53
    rw [World.size_setCell, World.size_setCell, World.size_setCell, World.size_setCell] at hr
    refine bodyPost_ret (v := cuv H V C (some ⟨w1.heap.size, 0, none⟩) M M) (by simp [results, Try.results42, go_sem, m0, m1, m2, m3]) rfl ⟨w1.heap.size, rfl, by omega, hr.drew.congr fun j _ => by simp [wf, wd_zero], (bl_alloc (bl_set (bl_set (bl_set (bl_set HB.out (by omega) _) (by omega) _) (by omega) _) (by omega) _) _).drew⟩)
end Go.Proofs.Ytfboegdibohciaa
/- THE DOCUMENT'S OWN Pack, walked. -/
namespace Go.Proofs.Ytfboegdibohciaa
open Go.RowKit Go.Shelf

theorem rpack_start (w : World) (h v c : Int) : ∃ W, (w.alloc (.cells #[.int .i64 h, .int .i64 v, .int .i64 c] 27)).alloc (.cells #[.int .i64 0, .int .i64 0, .int .i64 0, .slice none 0 0] 31) = W ∧
    W.heap.size = w.heap.size + 2 ∧ Below w.heap.size w W ∧ W.rowIs w.heap.size 27 3 (hf h v c) ∧ W.rowIs (w.heap.size + 1) 31 4 (cf 0 0 0 none 0 0) := by
  refine ⟨_, rfl, by simp, bl_alloc (bl_alloc (Below.refl _ _) _) _, (hf_new w _ _ _ _).alloc _, ?_⟩
  have := cu_new (w.alloc (.cells #[.int .i64 h, .int .i64 v, .int .i64 c] 27)) 0 0 0 none 0 0 31
  rwa [World.size_alloc] at this
set_option maxHeartbeats 1600000 in
set_option maxRecDepth 100000 in
theorem rpack_bad (h v c : Int) (ao : Option Addr) (n cap : Nat) (w : World) (E : Int) (hE : E = if Sg.chk h v c = 0 then 32 else Sg.chk h v c) (hn : Sg.chk h v c = 0 → (n : Int) ≠ Sg.elN h v c) :
    Calls Try.prog 22 #[Sg.shp h v c, .slice ao n cap] w fun e w' => e = .returned (.tuple #[cuv 0 0 0 none 0 0, .int .i64 E]) ∧ Below w.heap.size w w' := by
  have HC := hid1 (Sg.relems_any h v c)
  obtain ⟨W, eW, z0, B0, q0, q2⟩ := rpack_start w h v c
  have e0 := hf0 q0
  have e1 := hf1 q0
  have e2 := hf2 q0
  go_enter Try.func22, Try.ntmps22
  go_wp2_with fail
  refine (HC.out W).mono ?_
  rintro e w1 ⟨rfl, hb⟩
  clear e0 e1 e2
  replace q2 := keepr hb q2
  have d0 := cf0 q2
  have d1 := cf1 q2
  have d2 := cf2 q2
  have d3 := cf3 q2
  have f0 := q2.frozen 0
  have f1 := q2.frozen 1
  have f2 := q2.frozen 2
  have f3 := q2.frozen 3
  have B1 := bl_step B0 hb
  have fin : ∀ x y z u, Below w.heap.size w ((((w1.setCell ⟨w.heap.size + 1, 0, none⟩ x).setCell ⟨w.heap.size + 1, 1, none⟩ y).setCell ⟨w.heap.size + 1, 2, none⟩ z).setCell ⟨w.heap.size + 1, 3, none⟩ u) := fun x y z u => bl_set (bl_set (bl_set (bl_set B1 (by omega) _) (by omega) _) (by omega) _) (by omega) _
  clear q0 q2 hb B0 HC eW B1
  by_cases k : Sg.chk h v c = 0
  · rw [if_pos k] at hE
    subst hE
    have hn' := hn k
    rw [k]
    generalize Sg.elN h v c = u at *
    clear hn k
    go_wp2_with fail
    exact bodyPost_ret (v := .tuple #[cuv 0 0 0 none 0 0, .int .i64 32]) (by simp [results, Try.results22, go_sem, d0, d1, d2, d3]) rfl ⟨rfl, fin _ _ _ _⟩
  · rw [if_neg k] at hE
    rw [← hE]
    rw [← hE] at k
    generalize Sg.elN h v c = u at *
    clear hn hE
    go_wp2_with fail
    exact bodyPost_ret (v := .tuple #[cuv 0 0 0 none 0 0, .int .i64 E]) (by simp [results, Try.results22, go_sem, d0, d1, d2, d3]) rfl ⟨rfl, fin _ _ _ _⟩
/-- The memory that Pack goes through. -/
def Pm (w W : World) (H V C bC G M N : Nat) : Prop := W.rowIs w.heap.size 27 3 (hf H V C) ∧ W.rowIs (w.heap.size + 1) 31 4 (cf 0 0 0 none 0 0) ∧ W.rowIs bC 31 4 (cf H V C (some ⟨G, 0, none⟩) M M) ∧ W.rowIs G 53 M (wf N) ∧ Below w.heap.size w W
theorem Pm.put {w W X : World} {H V C bC G M N N' : Nat} (h : Pm w W H V C bC G M N) (g1 : w.heap.size + 1 < G) (g2 : bC ≠ G) (hr : X.rowIs G 53 M (wf N')) (hb : But G W X) : Pm w X H V C bC G M N' :=
  ⟨hb.row (by omega) h.1, hb.row (by omega) h.2.1, hb.row g2 h.2.2.1, hr, hb.below (by omega) h.2.2.2.2.size h.2.2.2.2⟩
set_option maxHeartbeats 3200000 in
set_option maxRecDepth 100000 in
theorem rpack_ok (H V C : Nat) (l : List Int) (T : Nat) (hl : l.length = T) (ao : Option Addr) (cap : Nat) (w : World) (hH : 1 ≤ H ∧ H ≤ 4096) (hV : 1 ≤ V ∧ V ≤ 4096) (hC : 1 ≤ C ∧ C ≤ 4096) (hT : T = H * V * C) (hT2 : T ≤ 16777216) (k : Sg.chk H V C = 0) (M : Nat) (hM : H * V * nw C = M)
    (rd : R8 w ao l) :
    Calls Try.prog 22 #[Sg.shp H V C, .slice ao T cap] w fun e w' => ∃ G, e = .returned (.tuple #[cuv H V C (some ⟨G, 0, none⟩) M M, .int .i64 0]) ∧ w.heap.size ≤ G ∧ w'.rowIs G 53 M (wf (js (64 * nw C) (sp l C) (H * V))) ∧ Below w.heap.size w w' := by
  have HC := hid1 (Sg.relems_any H V C)
  rw [k, elN_nat k, ← hT] at HC
  have hbd := (wo_bd hH.2 hV.2 hC.2).2
  rw [hM] at hbd
  have HE := hid1 (fun W => rempty_any H V C W k M hM hbd)
  have HPut := hid1 (fun G N y x q W hy hx hq hi row => put_any H V C G M N y x q W hV.2 hC.2 hy hx hq hi hbd row)
  have HI : ∀ y x, y < H → x < V → (y * V + x) * nw C + nw C ≤ M := fun y x hy hx => by
    have h1 : (y + 1) * V ≤ H * V := Nat.mul_le_mul_right _ hy
    rw [Nat.succ_mul] at h1
    rw [← hM, ← Nat.succ_mul]
    exact Nat.mul_le_mul_right _ (by omega)
  have HJ : ∀ y x q, y < H → x < V → q < C → (y * V + x) * C + q < T := fun y x q hy hx hq => by
    have h1 : (y + 1) * V ≤ H * V := Nat.mul_le_mul_right _ hy
    rw [Nat.succ_mul] at h1
    have h2 : (y * V + x + 1) * C ≤ H * V * C := Nat.mul_le_mul_right _ (by omega)
    rw [Nat.succ_mul] at h2
    omega
  have HQ : Hid (∀ y x q, q < C → qn l C ((y * V + x) * C + q + 1) = qn l C ((y * V + x) * C + q) ||| (if 0 < ia l ((y * V + x) * C + q) then 2 ^ bp V C y x q else 0)) := hid1 fun y x q hq => by
    show qn l C _ ||| _ = _
    have e1 : ((y * V + x) * C + q) / C = y * V + x := by rw [Nat.mul_comm, Nat.mul_add_div (by omega), Nat.div_eq_of_lt hq, Nat.add_zero]
    have e2 : ((y * V + x) * C + q) % C = q := by rw [Nat.mul_comm, Nat.mul_add_mod, Nat.mod_eq_of_lt hq]
    rw [e1, e2]; rfl
  have HALL := hid1 (qn_all l (C := C) (n := H * V) hC.1)
  rw [← hT] at HALL
  have HTT := hid1 hT
  have RD := hid1 rd
  have HLL := hid1 hl
  clear hT k hM hl rd
  obtain ⟨FN, hFN⟩ : ∃ FN, js (64 * nw C) (sp l C) (H * V) = FN := ⟨_, rfl⟩
  rw [hFN] at HALL ⊢
  clear hFN
  obtain ⟨W, eW, z0, B0, q0, q2⟩ := rpack_start w H V C
  have e0 := hf0 q0
  have e1 := hf1 q0
  have e2 := hf2 q0
  go_enter Try.func22, Try.ntmps22
  go_wp2_with fail
  refine (HC.out W).mono ?_
  rintro e w1 ⟨rfl, hb⟩
  clear e0 e1 e2 eW
  replace q0 := keepr hb q0
  replace q2 := keepr hb q2
  have B1 := bl_step B0 hb
  have z1 := hb.size
  clear hb B0 HC
  have e0 := hf0 q0
  have e1 := hf1 q0
  have e2 := hf2 q0
  go_wp2_with fail
  refine (HE.out w1).mono ?_
  rintro e w2 ⟨G, rfl, hG, row, hb⟩
  replace q0 := keepr hb q0
  replace q2 := keepr hb q2
  have B2 := bl_step B1 hb
  have lG := row.lt
  clear hb B1 HE e0 e1 e2
  have PM : Pm w (w2.alloc (.cells #[.int .i64 H, .int .i64 V, .int .i64 C, .slice (some ⟨G, 0, none⟩) M M] 31)) H V C w2.heap.size G M (qn l C 0) := ⟨q0.alloc _, q2.alloc _, cu_new _ _ _ _ _ _ _ _, row.alloc _, bl_alloc B2 _⟩
  obtain ⟨bC, ebC⟩ : ∃ bC, w2.heap.size = bC := ⟨_, rfl⟩
  have hGb : w.heap.size + 1 < G := by omega
  have hbG : bC ≠ G := by omega
  have HPM := hid1 PM
  rw [ebC] at HPM
  clear PM q0 q2 B2 row
  go_wp2_with fail
  go_loopw [9, 10] (fun s9 s10 wr => ∃ y i : Nat, y ≤ H ∧ i = y * V * C ∧ s10 = .int .i64 y ∧ s9 = .int .i64 i ∧ Pm w wr H V C bC G M (qn l C i)) (fun _ s10 _ => H - (intOf s10).toNat)
  case atStart => exact ⟨0, 0, Nat.zero_le _, by simp, rfl, rfl, HPM.out⟩
  case round =>
    clear HPM
    obtain ⟨y, i, hy, hi, rfl, rfl, PM⟩ := hrel
    have e0 := hf0 PM.1
    by_cases hyl : y < H
    · have iy : (y : Int) < (H : Int) := by omega
      have HP1 := hid1 PM
      have HI1 := hid1 hi
      clear PM hi
      go_wp2_with fail
      go_loopw [9, 11] (fun s9 s11 wr => ∃ x i : Nat, x ≤ V ∧ i = (y * V + x) * C ∧ s11 = .int .i64 x ∧ s9 = .int .i64 i ∧ Pm w wr H V C bC G M (qn l C i)) (fun _ s11 _ => V - (intOf s11).toNat)
      case atStart => exact ⟨0, i, Nat.zero_le _, by rw [HI1.out]; rfl, rfl, rfl, HP1.out⟩
      case round =>
        clear HP1 HI1 e0
        obtain ⟨x, i, hx, hi, rfl, rfl, PM⟩ := hrel
        have e1 := hf1 PM.1
        by_cases hxl : x < V
        · have ix : (x : Int) < (V : Int) := by omega
          have HP1 := hid1 PM
          have HI1 := hid1 hi
          clear PM hi
          go_wp2_with fail
          go_loopw [9, 12] (fun s9 s12 wr => ∃ q i : Nat, q ≤ C ∧ i = (y * V + x) * C + q ∧ s12 = .int .i64 q ∧ s9 = .int .i64 i ∧ Pm w wr H V C bC G M (qn l C i)) (fun _ s12 _ => C - (intOf s12).toNat)
          case atStart => exact ⟨0, i, Nat.zero_le _, by rw [HI1.out]; rfl, rfl, rfl, HP1.out⟩
          case round =>
            clear HP1 HI1 e1
            obtain ⟨q, i, hq, hi, rfl, rfl, PM⟩ := hrel
            have e2 := hf2 PM.1
            by_cases hql : q < C
            · have iq : (q : Int) < (C : Int) := by omega
              have hiT : i < T := by rw [hi]; exact HJ y x q hyl hxl hql
              have iiT : (i : Int) < (T : Int) := by omega
              have ii0 : (0 : Int) ≤ (i : Int) := by omega
              obtain ⟨ga, oa, rfl, c8⟩ := (RD.out.below PM.2.2.2.2) i (by rw [HLL.out]; exact hiT)
              have HQ1 := hid1 (HQ.out y x q hql)
              rw [← hi] at HQ1
              have d0 := cf0 PM.2.2.1
              have d1 := cf1 PM.2.2.1
              have d2 := cf2 PM.2.2.1
              have d3 := cf3 PM.2.2.1
              have HP1 := hid1 PM
              have HI1 := hid1 hi
              have rw1 : IntKind.i64.wrap ((i : Int) + 1) = ((i + 1 : Nat) : Int) := by rw [IntKind.wrap_i64]; omega
              clear PM hi
              by_cases hp : 0 < ia l i
              · have HQ2 := hid1 HQ1.out
                rw [if_pos hp] at HQ2
                go_wp2_with fail
                refine (HPut.out G (qn l C i) y x q _ (by omega) (by omega) hql (HI y x hyl hxl) HP1.out.2.2.2.1).mono ?_
                rintro e w5 ⟨rfl, hrow, hbut⟩
                have PM2 := hid1 (HP1.out.put hGb hbG (by rw [← HQ2.out] at hrow; exact hrow) hbut)
                clear hrow hbut d0 d1 d2 d3 e2 c8
                go_wp2_with fail
                exact ⟨⟨q + 1, i + 1, by omega, by have := HI1.out; omega, by go_num, by go_num, PM2.out⟩, by simp [intOf]; omega⟩
              · have HQ2 := hid1 HQ1.out
                rw [if_neg hp, Nat.or_zero] at HQ2
                go_wp2_with fail
                exact ⟨⟨q + 1, i + 1, by omega, by have := HI1.out; omega, by go_num, by go_num, by rw [HQ2.out]; exact HP1.out⟩, by simp [intOf]; omega⟩
            · have hqC : q = C := by omega
              subst hqC
              have HP1 := hid1 PM
              have HI1 := hid1 hi
              clear PM hi
              go_wp2_with fail
              exact ⟨⟨x + 1, i, by omega, by rw [HI1.out, ← Nat.add_assoc, Nat.succ_mul], by go_num, rfl, HP1.out⟩, by simp [intOf]; omega⟩
        · have hxV : x = V := by omega
          subst hxV
          have HP1 := hid1 PM
          have HI1 := hid1 hi
          clear PM hi
          go_wp2_with fail
          exact ⟨⟨y + 1, i, by omega, by rw [HI1.out, Nat.succ_mul], by go_num, rfl, HP1.out⟩, by simp [intOf]; omega⟩
    · have hyH : y = H := by omega
      subst hyH
      have d0 := cf0 PM.2.2.1
      have d1 := cf1 PM.2.2.1
      have d2 := cf2 PM.2.2.1
      have d3 := cf3 PM.2.2.1
      have s0 := cf0 PM.2.1
      have s1 := cf1 PM.2.1
      have s2 := cf2 PM.2.1
      have s3 := cf3 PM.2.1
      have f0 := PM.2.1.frozen 0
      have f1 := PM.2.1.frozen 1
      have f2 := PM.2.1.frozen 2
      have f3 := PM.2.1.frozen 3
      have HP1 := hid1 PM
      have HI1 := hid1 hi
      clear PM hi
      clear HPut HI HJ HQ
      go_wp2_with fail
      obtain ⟨_, P2, _, P4, P5⟩ := HP1.out
      have hc := cf_set P2 y V C (some ⟨G, 0, none⟩) M M
      have m0 := cf0 hc
      have m1 := cf1 hc
      have m2 := cf2 hc
      have m3 := cf3 hc
      refine bodyPost_ret (v := .tuple #[cuv y V C (some ⟨G, 0, none⟩) M M, .int .i64 0]) (by simp [results, Try.results22, go_sem, m0, m1, m2, m3]) rfl ⟨G, rfl, by omega, ?_, bl_set (bl_set (bl_set (bl_set P5 (by omega) _) (by omega) _) (by omega) _) (by omega) _⟩
      have hfin : qn l C i = FN := by rw [← HALL.out, HTT.out, HI1.out]
      rw [hfin] at P4
      exact (((P4.setOther (a := ⟨w.heap.size + 1, 0, none⟩) (by show G ≠ w.heap.size + 1; omega) _).setOther (a := ⟨w.heap.size + 1, 1, none⟩) (by show G ≠ w.heap.size + 1; omega) _).setOther (a := ⟨w.heap.size + 1, 2, none⟩) (by show G ≠ w.heap.size + 1; omega) _).setOther (a := ⟨w.heap.size + 1, 3, none⟩) (by show G ≠ w.heap.size + 1; omega) _
end Go.Proofs.Ytfboegdibohciaa
/- BOTH Packs, of every shape and list; CubePacks. -/
namespace Go.Proofs.Ytfboegdibohciaa
open Go.RowKit Go.Shelf

/-- What Pack tells. -/
def pE (h v c : Int) (n : Nat) : Int := if Sg.chk h v c = 0 then (if (n : Int) = Sg.elN h v c then 0 else 32) else Sg.chk h v c
/-- What is answered: shape, words, the number that they make. -/
def pS (h v c : Int) (l : List Int) (n : Nat) : Int × Int × Int × Nat × Nat := if pE h v c n = 0 then (h, v, c, h.toNat * v.toNat * nw c.toNat, js (64 * nw c.toNat) (sp l c.toNat) (h.toNat * v.toNat)) else (0, 0, 0, 0, 0)
theorem pE_zero {h v c : Int} {n : Nat} (k : pE h v c n = 0) : ∃ H V C : Nat, h = H ∧ v = V ∧ c = C ∧ Sg.chk H V C = 0 ∧ (1 ≤ H ∧ H ≤ 4096) ∧ (1 ≤ V ∧ V ≤ 4096) ∧ (1 ≤ C ∧ C ≤ 4096) ∧ n = H * V * C ∧ n ≤ 16777216 := by
  unfold pE at k
  by_cases k0 : Sg.chk h v c = 0
  · rw [if_pos k0] at k
    obtain ⟨H, V, C, rfl, rfl, rfl, hH, hV, hC, hb⟩ := chk_nat k0
    by_cases e : (n : Int) = Sg.elN H V C
    · rw [elN_nat k0] at e
      have e' : n = H * V * C := by omega
      exact ⟨H, V, C, rfl, rfl, rfl, k0, hH, hV, hC, e', by omega⟩
    · rw [if_neg e] at k; omega
  · rw [if_neg k0] at k; exact absurd k k0
theorem pE_bad {h v c : Int} {n : Nat} (k : pE h v c n ≠ 0) : (pE h v c n = if Sg.chk h v c = 0 then 32 else Sg.chk h v c) ∧ (Sg.chk h v c = 0 → (n : Int) ≠ Sg.elN h v c) := by
  unfold pE at *
  by_cases k0 : Sg.chk h v c = 0
  · rw [if_pos k0] at k ⊢
    by_cases e : (n : Int) = Sg.elN h v c
    · rw [if_pos e] at k; exact absurd rfl k
    · rw [if_neg e, if_pos k0]; exact ⟨rfl, fun _ => e⟩
  · rw [if_neg k0]; rw [if_neg k0]; exact ⟨rfl, fun q => absurd q k0⟩
theorem pS_ok {H V C : Nat} {l : List Int} {n : Nat} {a b c : Int} {m P : Nat} (k : pE H V C n = 0) (hS : pS H V C l n = (a, b, c, m, P)) : a = H ∧ b = V ∧ c = C ∧ m = H * V * nw C ∧ P = js (64 * nw C) (sp l C) (H * V) := by
  unfold pS at hS
  rw [if_pos k] at hS
  simp only [Int.toNat_natCast] at hS
  cases hS
  exact ⟨rfl, rfl, rfl, rfl, rfl⟩
theorem js_words {l : List Int} {C n : Nat} : js (64 * nw C) (sp l C) n < 2 ^ (64 * (n * nw C)) := by
  have := js_lt (s := 64 * nw C) (P := sp l C) (n := n) (fun i _ => Nat.lt_of_lt_of_le (sp_lt l C i) (pow_mono (nw_le C)))
  rwa [show n * (64 * nw C) = 64 * (n * nw C) by rw [Nat.mul_left_comm]] at this
theorem pack_all (h v c : Int) (l : List Int) (n : Nat) (hl : l.length = n) (ao : Option Addr) (cap : Nat) (w : World) (hcap : n ≤ cap) (hcap2 : cap ≤ 9223372036854775807) (rd : R8 w ao l) (a b d : Int) (m P : Nat) (E : Int) (hE : pE h v c n = E) (hS : pS h v c l n = (a, b, d, m, P)) :
    Calls Try.prog 11 #[Sg.shp h v c, .slice ao n cap] w fun e w' => ∃ bo K, e = .returned (.tuple #[cuv a b d bo m K, .int .i64 E]) ∧ Wr w' bo m P ∧ Below w.heap.size w w' := by
  subst hE
  by_cases h0 : pE h v c n = 0
  · obtain ⟨H, V, C, rfl, rfl, rfl, k0, hH, hV, hC, e1, e2⟩ := pE_zero h0
    obtain ⟨rfl, rfl, rfl, rfl, rfl⟩ := pS_ok h0 hS
    have hn0 : 0 < n := by rw [e1]; exact Nat.mul_pos (Nat.mul_pos (by omega) (by omega)) (by omega)
    obtain ⟨g, o, rfl, _⟩ := rd 0 (by omega)
    refine (cpack_ok H V C l n hl g o cap w hH hV hC e1 e2 hcap hcap2 k0 _ rfl rd).mono ?_
    rintro e w' ⟨G, rfl, _, row, hb⟩
    exact ⟨_, _, by rw [h0], Wr.row row js_words, hb⟩
  · have hS' := hS
    unfold pS at hS'
    rw [if_neg h0] at hS'
    cases hS'
    obtain ⟨q1, q2⟩ := pE_bad h0
    refine (cpack_bad h v c ao n cap w _ q1 q2).mono ?_
    rintro e w' ⟨rfl, hb⟩
    exact ⟨_, _, rfl, ⟨by decide, fun k hk => absurd hk (by omega)⟩, hb⟩
theorem rpack_all (h v c : Int) (l : List Int) (n : Nat) (hl : l.length = n) (ao : Option Addr) (cap : Nat) (w : World) (rd : R8 w ao l) (a b d : Int) (m P : Nat) (E : Int) (hE : pE h v c n = E) (hS : pS h v c l n = (a, b, d, m, P)) :
    Calls Try.prog 22 #[Sg.shp h v c, .slice ao n cap] w fun e w' => ∃ bo K, e = .returned (.tuple #[cuv a b d bo m K, .int .i64 E]) ∧ Wr w' bo m P ∧ (∀ g o, bo = some ⟨g, o, none⟩ → w.heap.size ≤ g) ∧ Below w.heap.size w w' := by
  subst hE
  by_cases h0 : pE h v c n = 0
  · obtain ⟨H, V, C, rfl, rfl, rfl, k0, hH, hV, hC, e1, e2⟩ := pE_zero h0
    obtain ⟨rfl, rfl, rfl, rfl, rfl⟩ := pS_ok h0 hS
    refine (rpack_ok H V C l n hl ao cap w hH hV hC e1 e2 k0 _ rfl rd).mono ?_
    rintro e w' ⟨G, rfl, hG, row, hb⟩
    exact ⟨_, _, by rw [h0], Wr.row row js_words, fun g o e => (by cases e; exact hG), hb⟩
  · have hS' := hS
    unfold pS at hS'
    rw [if_neg h0] at hS'
    cases hS'
    obtain ⟨q1, q2⟩ := pE_bad h0
    refine (rpack_bad h v c ao n cap w _ q1 q2).mono ?_
    rintro e w' ⟨rfl, hb⟩
    exact ⟨_, _, rfl, ⟨by decide, fun k hk => absurd hk (by omega)⟩, fun g o e => (by cases e), hb⟩
theorem pS_le {h v c : Int} {l : List Int} {n : Nat} {a b d : Int} {m P : Nat} (hS : pS h v c l n = (a, b, d, m, P)) : m ≤ 9223372036854775807 := by
  by_cases h0 : pE h v c n = 0
  · obtain ⟨H, V, C, rfl, rfl, rfl, k0, hH, hV, hC, e1, e2⟩ := pE_zero h0
    obtain ⟨_, _, _, rfl, _⟩ := pS_ok h0 hS
    have := (wo_bd hH.2 hV.2 hC.2).2
    omega
  · unfold pS at hS
    rw [if_neg h0] at hS
    cases hS
    omega
end Go.Proofs.Ytfboegdibohciaa
/- CubePacks. -/
namespace Go.Proofs.Ytfboegdibohciaa
open Go.RowKit Go.Shelf

/-- A shape's cells in a list. -/
def Ch (w : World) (g o : Nat) (h v c : Int) : Prop := w.cell? ⟨g, o, none⟩ = some (.int .i64 h) ∧ w.cell? ⟨g, o + 1, none⟩ = some (.int .i64 v) ∧ w.cell? ⟨g, o + 2, none⟩ = some (.int .i64 c)
theorem Ch.below {W X : World} {g o : Nat} {h v c : Int} (k : Ch W g o h v c) (hb : Below W.heap.size W X) : Ch X g o h v c := ⟨keepc hb k.1, keepc hb k.2.1, keepc hb k.2.2⟩
def Lch (w : World) (ao : Option Addr) (m : Nat) : Prop := ∀ k, k < m → ∃ g o h v c, ao = some ⟨g, o, none⟩ ∧ Ch w g (o + k * 3) h v c
theorem Lch.below {W X : World} {ao : Option Addr} {m : Nat} (k : Lch W ao m) (hb : Below W.heap.size W X) : Lch X ao m := fun i hi => by
  obtain ⟨g, o, h, v, c, e, q⟩ := k i hi
  exact ⟨g, o, h, v, c, e, q.below hb⟩
def L8 (w : World) (ao : Option Addr) (m : Nat) : Prop := ∀ k, k < m → ∃ g o xo n xc l, ao = some ⟨g, o, none⟩ ∧ w.cell? ⟨g, o + k, none⟩ = some (.slice xo n xc) ∧ l.length = n ∧ n ≤ 140737488351232 ∧ R8 w xo l
theorem L8.below {W X : World} {ao : Option Addr} {m : Nat} (k : L8 W ao m) (hb : Below W.heap.size W X) : L8 X ao m := fun i hi => by
  obtain ⟨g, o, xo, n, xc, l, e, q, r1, r2, r3⟩ := k i hi
  exact ⟨g, o, xo, n, xc, l, e, keepc hb q, r1, r2, r3.below hb⟩
theorem rs_r8 {w : World} {ao : Option Addr} {l : List Int} {n : Nat} (hl : l.length = n) (h : Rs w ao n (fun k => .int .i8 (ia l k))) : R8 w ao l := fun k hk => h k (by omega)
theorem r8_rs {w : World} {ao : Option Addr} {l : List Int} {n : Nat} (hl : l.length = n) (h : R8 w ao l) : Rs w ao n (fun k => .int .i8 (ia l k)) := fun k hk => h k (by omega)
theorem kpP {Z Y : World} {g o g2 o2 : Nat} {h v c : Int} {xo : Option Addr} {n xc : Nat} (k : Ch Z g o h v c) (q : Z.cell? ⟨g2, o2, none⟩ = some (.slice xo n xc)) (hB : Below Z.heap.size Z Y) :
    (Y.cell? ⟨g, o, none⟩ = some (.int .i64 h) ∧ Y.cell? ⟨g, o + 1, none⟩ = some (.int .i64 v) ∧ Y.cell? ⟨g, o + 2, none⟩ = some (.int .i64 c)) ∧ Y.cell? ⟨g2, o2, none⟩ = some (.slice xo n xc) := ⟨k.below hB, keepc hB q⟩
theorem wr_putO {w : World} {bo : Option Addr} {m N b : Nat} (h : Wr w bo m N) (hb : ∀ g o, bo = some ⟨g, o, none⟩ → g ≠ b) (k : Nat) (u : Value) : Wr (w.setCell ⟨b, k, none⟩ u) bo m N :=
  ⟨h.1, fun j hj => by
    obtain ⟨g, o, e, c⟩ := h.2 j hj
    exact ⟨g, o, e, ((But.refl b w).set u).cell (hb g o e) c⟩⟩
end Go.Proofs.Ytfboegdibohciaa
/- THE DOCUMENT'S OWN Check. -/
namespace Go.Proofs.Ytfboegdibohciaa
open Go.RowKit Go.Shelf

theorem place_shr {N C p : Nat} (h0 : 0 < C) (hr : C % 64 ≠ 0) : wd N (p * nw C + (nw C - 1)) / 2 ^ (C % 64) = 0 ↔ pl N (nw C) p < 2 ^ C := by
  have hd : nw C - 1 < nw C := by unfold nw; omega
  rw [← pl_wd hd]
  exact last_shr h0 hr (pl_lt N (nw C) p)
theorem place_full {N C p : Nat} (hr : C % 64 = 0) : pl N (nw C) p < 2 ^ C := by
  have := pl_lt N (nw C) p
  rwa [show 64 * nw C = C by unfold nw; omega] at this
set_option maxHeartbeats 800000 in
set_option maxRecDepth 100000 in
theorem rccheck_shape (h v c : Int) (ao : Option Addr) (m cap : Nat) (w : World) (k : Sg.chk h v c ≠ 0) :
    Calls Try.prog 24 #[cuv h v c ao m cap] w fun e w' => e = .returned (.int .i64 (Sg.chk h v c)) ∧ Below w.heap.size w w' := by
  have HC := hid1 (Sg.rwords_any h v c)
  generalize Sg.chk h v c = q at *
  generalize Sg.woN h v c = u at *
  go_enter Try.func24, Try.ntmps24
  go_wp2_with fail
  refine gen_calls (fun W => Below w.heap.size w W) (bl_alloc (Below.refl _ _) _) ?_
  rintro W B0
  refine (HC.out W).mono ?_
  rintro e w1 ⟨rfl, hb⟩
  go_wp2_with fail
  go_ret
  exact ⟨rfl, bl_step B0 hb⟩
set_option maxHeartbeats 800000 in
set_option maxRecDepth 100000 in
theorem rccheck_len (H V C : Nat) (ao : Option Addr) (m cap : Nat) (w : World) (k : Sg.chk H V C = 0) (ne : m ≠ H * V * nw C) :
    Calls Try.prog 24 #[cuv H V C ao m cap] w fun e w' => e = .returned (.int .i64 20) ∧ Below w.heap.size w w' := by
  have HC := hid1 (Sg.rwords_any H V C)
  rw [k, woN_nat k] at HC
  generalize H * V * nw C = u at *
  have ne' : ¬ (m : Int) = (u : Nat) := by omega
  go_enter Try.func24, Try.ntmps24
  go_wp2_with fail
  refine gen_calls (fun W => Below w.heap.size w W ∧ W.rowIs w.heap.size 31 4 (cf H V C ao m cap)) ⟨bl_alloc (Below.refl _ _) _, cu_new w _ _ _ _ _ _ _⟩ ?_
  rintro W ⟨B0, r0⟩
  refine (HC.out W).mono ?_
  rintro e w1 ⟨rfl, hb⟩
  have c2 := cf3 (keepr hb r0)
  have B1 := bl_step B0 hb
  clear hb B0 r0
  go_wp2_with fail
  go_ret
  exact ⟨rfl, B1⟩
set_option maxHeartbeats 1600000 in
set_option maxRecDepth 100000 in
theorem rccheck_good (H V C g o m cap N : Nat) (w : World) (hH : 1 ≤ H ∧ H ≤ 4096) (hV : 1 ≤ V ∧ V ≤ 4096) (hC : 1 ≤ C ∧ C ≤ 4096) (k : Sg.chk H V C = 0) (hm : m = H * V * nw C) (rd : Wr w (some ⟨g, o, none⟩) m N) :
    Calls Try.prog 24 #[cuv H V C (some ⟨g, o, none⟩) m cap] w fun e w' => e = .returned (.int .i64 (if Pok (H * V) C N then 0 else 20)) ∧ Below w.heap.size w w' := by
  have HC := hid1 (Sg.rwords_any H V C)
  rw [k, woN_nat k, ← hm] at HC
  have HD := hid1 (deep_any C (by omega))
  have hb := (wo_bd hH.2 hV.2 hC.2).2
  rw [← hm] at hb
  obtain ⟨rr, hrr⟩ : ∃ rr : Int, (if Pok (H * V) C N then (0 : Int) else 20) = rr := ⟨_, rfl⟩
  rw [hrr]
  have HRR := hid1 hrr
  clear hrr
  have HSH := hid1 (fun p hr => place_shr (N := N) (C := C) (p := p) hC.1 hr)
  have HFL := hid1 (fun p hr => place_full (N := N) (C := C) (p := p) hr)
  have hd0 : 0 < nw C := by unfold nw; omega
  have hd64 : nw C ≤ 64 := by unfold nw; omega
  obtain ⟨ok, hok⟩ : ∃ ok : Nat → Prop, ok = fun i => pl N (nw C) i < 2 ^ C := ⟨_, rfl⟩
  have HE := hid1 (fun i => congrFun hok i)
  have HOK : Hid ((∀ i, i < H * V → ok i) → rr = 0) := hid1 fun h => by
    rw [← HRR.out, if_pos]
    intro i hi
    have := h i hi
    rwa [HE.out] at this
  have HBAD : Hid (∀ i, i < H * V → ¬ ok i → rr = 20) := hid1 fun i hi h => by
    rw [← HRR.out, if_neg]
    intro q
    rw [HE.out] at h
    exact h (q i hi)
  replace HSH : Hid (∀ p, C % 64 ≠ 0 → (wd N (p * nw C + (nw C - 1)) / 2 ^ (C % 64) = 0 ↔ ok p)) := hid1 fun p hr => (HSH.out p hr).trans (iff_of_eq (HE.out p).symm)
  replace HFL : Hid (∀ p, C % 64 = 0 → ok p) := hid1 fun p hr => by rw [HE.out]; exact HFL.out p hr
  clear hok HE HRR
  have hmd : ∀ p, p * nw C + (nw C - 1) < m → p < H * V := fun p hp => by
    rcases Nat.lt_or_ge p (H * V) with q | q
    · exact q
    · have := Nat.mul_le_mul_right (nw C) q; omega
  have hmd2 : ∀ p, ¬ p * nw C + (nw C - 1) < m → H * V ≤ p := fun p hp => by
    rcases Nat.lt_or_ge p (H * V) with q | q
    · have := Nat.mul_le_mul_right (nw C) q
      rw [Nat.succ_mul] at this
      omega
    · exact q
  have HM1 := hid1 hmd
  have HM2 := hid1 hmd2
  clear hm hmd hmd2
  obtain ⟨d, hd⟩ : ∃ d, nw C = d := ⟨_, rfl⟩
  rw [hd] at HD hd0 hd64 HSH HM1 HM2
  clear hd
  obtain ⟨r, hr⟩ : ∃ r, C % 64 = r := ⟨_, rfl⟩
  have er : (C : Int) % 64 = (r : Int) := by omega
  have er' : (C : Int).tmod 64 = (r : Int) := by rw [Int.tmod_eq_emod_of_nonneg (by omega)]; exact er
  have ir0 : (0 : Int) ≤ (r : Int) := by omega
  have ir1 : (r : Int) ≤ 63 := by omega
  rw [hr] at HSH HFL
  clear hr
  have id1 : IntKind.i64.wrap ((d : Int) - 1) = ((d - 1 : Nat) : Int) := by rw [IntKind.wrap_i64]; omega
  have id1' : (d : Int) - 1 = ((d - 1 : Nat) : Int) := by omega
  have RD := hid1 rd
  clear rd
  go_enter Try.func24, Try.ntmps24
  go_wp2_with fail
  refine gen_calls (fun W => Below w.heap.size w W ∧ W.rowIs w.heap.size 31 4 (cf H V C (some ⟨g, o, none⟩) m cap)) ⟨bl_alloc (Below.refl _ _) _, cu_new w _ _ _ _ _ _ _⟩ ?_
  rintro W ⟨B0, r0⟩
  refine (HC.out W).mono ?_
  rintro e w1 ⟨rfl, hb1⟩
  replace r0 := keepr hb1 r0
  have B1 := bl_step B0 hb1
  clear hb1 B0 HC
  have e2 := cf2 r0
  have e3 := cf3 r0
  have HR0 := hid1 r0
  clear r0
  go_wp2_with (go_at_call 46; refine (HD.out _).mono ?_; rintro e w2 ⟨rfl, rfl⟩)
  clear HD e2 e3
  go_loopw [7] (fun s7 wr => ∃ p i : Nat, i = p * d + (d - 1) ∧ s7 = .int .i64 i ∧ i ≤ m + 64 ∧ (∀ q, q < p → ok q) ∧ wr.rowIs w.heap.size 31 4 (cf H V C (some ⟨g, o, none⟩) m cap) ∧ Below w.heap.size w wr) (fun s7 _ => m + 64 - (intOf s7).toNat)
  case atStart => exact ⟨0, d - 1, by omega, rfl, by omega, fun q hq => absurd hq (by omega), HR0.out, B1⟩
  case round =>
    clear HR0 B1
    obtain ⟨p, i, hi, rfl, hiM, hall, r0, hnx⟩ := hrel
    have HALL := hid1 hall
    have HI := hid1 hi
    have e3 := cf3 r0
    have HR0 := hid1 r0
    clear hall hi r0
    by_cases hr0 : r = 0
    · subst hr0
      have hz : rr = 0 := HOK.out fun q _ => HFL.out q rfl
      subst hz
      go_wp2_with fail
      go_ret
      exact ⟨rfl, hnx⟩
    · have nr : ¬ (r : Int) = 0 := by omega
      have ii0 : (0 : Int) ≤ (i : Int) := by omega
      by_cases him : i < m
      · have iim : (i : Int) < (m : Nat) := by omega
        obtain ⟨g', o', e, c8⟩ := (RD.out.below hnx).2 i him
        cases e
        unfold wf at c8
        have HP := hid1 (HSH.out p hr0)
        rw [← HI.out] at HP
        have hpv := HM1.out p (by rw [← HI.out]; exact him)
        have hy : (wd N i : Int) / 2 ^ r = ((wd N i / 2 ^ r : Nat) : Int) := by rw [shr_int]
        obtain ⟨y, hyy⟩ : ∃ y, wd N i / 2 ^ r = y := ⟨_, rfl⟩
        rw [hyy] at hy HP
        generalize wd N i = x at *
        clear hyy
        have wi : IntKind.i64.wrap ((i : Int) + (d : Int)) = ((i + d : Nat) : Int) := by rw [IntKind.wrap_i64]; omega
        by_cases y0 : y = 0
        · subst y0
          have hokp := HP.out.1 rfl
          clear HP
          go_wp2_with fail
          refine ⟨⟨p + 1, i + d, by have := HI.out; rw [Nat.succ_mul]; omega, by go_num, by omega, fun q hq => ?_, HR0.out, hnx⟩, by simp [intOf]; omega⟩
          by_cases e : q = p
          · subst e; exact hokp
          · exact HALL.out q (by omega)
        · have iy : ¬ (y : Int) = 0 := by omega
          have hbad : rr = 20 := HBAD.out p hpv fun q => y0 (HP.out.2 q)
          subst hbad
          clear HP
          go_wp2_with fail
          go_ret
          exact ⟨rfl, hnx⟩
      · have iim : ¬ (i : Int) < (m : Nat) := by omega
        have hpv := HM2.out p (by rw [← HI.out]; exact him)
        have hz : rr = 0 := HOK.out fun q hq => HALL.out q (by omega)
        subst hz
        go_wp2_with fail
        go_ret
        exact ⟨rfl, hnx⟩
theorem rccheck_any (h v c : Int) (ao : Option Addr) (m cap N : Nat) (w : World) (rd : Wr w ao m N) :
    Calls Try.prog 24 #[cuv h v c ao m cap] w fun e w' => e = .returned (.int .i64 (cuk h v c m N)) ∧ Below w.heap.size w w' := by
  by_cases k : Sg.chk h v c = 0
  · obtain ⟨H, V, C, rfl, rfl, rfl, hH, hV, hC, hb⟩ := chk_nat k
    unfold cuk
    rw [if_pos k, Int.toNat_natCast, Int.toNat_natCast, Int.toNat_natCast]
    by_cases e : m = H * V * nw C
    · rw [if_pos e]
      have hpos : 0 < m := by
        rw [e]
        exact Nat.mul_pos (Nat.mul_pos (by omega) (by omega)) (by unfold nw; omega)
      obtain ⟨g, o, rfl, _⟩ := rd.2 0 hpos
      exact rccheck_good H V C g o m cap N w hH hV hC k e rd
    · rw [if_neg e]
      exact rccheck_len H V C ao m cap w k e
  · unfold cuk
    rw [if_neg k]
    exact rccheck_shape h v c ao m cap w k
end Go.Proofs.Ytfboegdibohciaa
/- THE DOCUMENT'S OWN Bit. -/
namespace Go.Proofs.Ytfboegdibohciaa
open Go.RowKit Go.Shelf

theorem bit_at (N j r : Nat) (hr : r < 64) : (wd N j &&& 2 ^ r = 0) ↔ N.testBit (64 * j + r) = false := by
  have h := wd_bit N j r
  simp only [hr, decide_true, Bool.true_and] at h
  rw [← h]
  constructor
  · intro e
    have := congrArg (fun x => Nat.testBit x r) e
    simpa [Nat.testBit_and, Nat.testBit_two_pow_self] using this
  · intro e
    refine Nat.eq_of_testBit_eq fun i => ?_
    rw [Nat.testBit_and, Nat.testBit_two_pow]
    by_cases hi : r = i
    · subst hi; simp [e]
    · simp [hi]
set_option maxHeartbeats 1600000 in
set_option maxRecDepth 100000 in
theorem bit_any (H V C g o m cap N y x k : Nat) (w : World) (hV : V ≤ 4096) (hC : C ≤ 4096) (hy : y < 4096) (hx : x ≤ 4096) (hk : k < C) (hM : (y * V + x) * nw C + nw C ≤ m) (hM2 : m ≤ 1073741824) (rd : Wr w (some ⟨g, o, none⟩) m N) :
    Calls Try.prog 44 #[cuv H V C (some ⟨g, o, none⟩) m cap, .int .i64 y, .int .i64 x, .int .i64 k] w fun e w' => e = .returned (.bool (N.testBit (bp V C y x k))) ∧ Below w.heap.size w w' := by
  have HD := hid1 (deep_any C (by omega))
  have hd64 : nw C ≤ 64 := by unfold nw; omega
  have hkd : k / 64 < nw C := by unfold nw; omega
  have hbp : bp V C y x k = 64 * ((y * V + x) * nw C + k / 64) + k % 64 := by unfold bp; omega
  have b1 : y * V ≤ 4096 * 4096 := Nat.mul_le_mul (by omega) hV
  have b2 : (y * V + x) * nw C ≤ (4096 * 4096 + 4096) * 64 := Nat.mul_le_mul (by omega) hd64
  rw [hbp]
  clear hbp
  obtain ⟨d, hd⟩ : ∃ d, nw C = d := ⟨_, rfl⟩
  rw [hd] at HD hd64 hkd hM b2 ⊢
  clear hd
  obtain ⟨u, hu⟩ : ∃ u, y * V = u := ⟨_, rfl⟩
  have p1 : (y : Int) * (V : Int) = (u : Nat) := by rw [← hu]; push_cast; rfl
  rw [hu] at b1 b2 hM ⊢
  clear hu
  obtain ⟨v, hv⟩ : ∃ v, (u + x) * d = v := ⟨_, rfl⟩
  have p2 : ((u : Int) + (x : Int)) * (d : Int) = (v : Nat) := by rw [← hv]; push_cast; rfl
  rw [hv] at b2 hM ⊢
  clear hv
  obtain ⟨q, hq⟩ : ∃ q, k / 64 = q := ⟨_, rfl⟩
  obtain ⟨r, hr⟩ : ∃ r, k % 64 = r := ⟨_, rfl⟩
  rw [hq] at hkd ⊢
  rw [hr]
  have eq : (k : Int) / 64 = (q : Int) := by omega
  have eq' : (k : Int).tdiv 64 = (q : Int) := by rw [Int.tdiv_eq_ediv_of_nonneg (by omega)]; exact eq
  have er : (k : Int) % 64 = (r : Int) := by omega
  have er' : (k : Int).tmod 64 = (r : Int) := by rw [Int.tmod_eq_emod_of_nonneg (by omega)]; exact er
  have ir0 : (0 : Int) ≤ (r : Int) := by omega
  have ir1 : (r : Int) ≤ 63 := by omega
  have w1 : IntKind.i64.wrap (u : Int) = (u : Int) := by rw [IntKind.wrap_i64]; omega
  have w2 : IntKind.i64.wrap ((u : Int) + (x : Int)) = (u : Int) + (x : Int) := by rw [IntKind.wrap_i64]; omega
  have w3 : IntKind.i64.wrap (v : Int) = (v : Int) := by rw [IntKind.wrap_i64]; omega
  have w4 : IntKind.i64.wrap (q : Int) = (q : Int) := by rw [IntKind.wrap_i64]; omega
  have w5 : IntKind.i64.wrap ((v : Int) + (q : Int)) = ((v + q : Nat) : Int) := by rw [IntKind.wrap_i64]; omega
  have w5' : (v : Int) + (q : Int) = ((v + q : Nat) : Int) := by omega
  obtain ⟨g', o', e, c8⟩ := rd.2 (v + q) (by omega)
  cases e
  unfold wf at c8
  have HB := hid1 (bit_at N (v + q) r (by omega))
  have H64 : (2 : Nat) ^ r < 18446744073709551616 := by rw [two64]; exact Nat.pow_lt_pow_right (by decide) (by omega)
  have hE : IntKind.u64.wrap (2 ^ r) = ((2 ^ r : Nat) : Int) := by
    rw [show ((2 : Int) ^ r) = ((2 ^ r : Nat) : Int) by simp, IntKind.wrap_u64]
    generalize 2 ^ r = y at *; omega
  have HA : bits .and .u64 (wd N (v + q) : Nat) (IntKind.u64.wrap (2 ^ r)) = ((wd N (v + q) &&& 2 ^ r : Nat) : Int) := by rw [hE]; exact and_u64 _ _ (wd_lt _ _) H64
  obtain ⟨z, hz⟩ : ∃ z, wd N (v + q) &&& 2 ^ r = z := ⟨_, rfl⟩
  rw [hz] at HA HB
  clear hE H64 hz
  generalize N.testBit (64 * (v + q) + r) = bb at *
  generalize wd N (v + q) = xx at *
  generalize hpp : v + q = p at *
  have ip0 : (0 : Int) ≤ (p : Int) := by omega
  have ip1 : (p : Int) < (m : Int) := by omega
  have lg := lt_of_cell c8
  clear hq hr hpp rd
  go_enter Try.func44, Try.ntmps44
  go_wp2_with fail
  have c8' : (w.alloc (.cells #[.int .i64 H, .int .i64 V, .int .i64 C, .slice (some ⟨g, o, none⟩) m cap] 31)).cell? ⟨g, o + p, none⟩ = some (.int .u64 xx) := keepc (bl_alloc (Below.refl _ _) _) c8
  go_quiet ((go_at_call 46; exact Calls.quiet_of_same (HD.out _)))
  go_wp2_with fail
  go_ret
  refine ⟨?_, bl_drewN (bl_alloc (Below.refl _ _) _) _⟩
  have hb : ((z : Int) != 0) = bb := by
    cases bb
    · have : z = 0 := HB.out.2 rfl
      subst this; rfl
    · have : ¬ z = 0 := fun h => by have := HB.out.1 h; cases this
      simp [this]
  show Ending.returned (.bool ((z : Int) != 0)) = _
  rw [hb]
end Go.Proofs.Ytfboegdibohciaa
/- THE DOCUMENT'S OWN Unpack. -/
namespace Go.Proofs.Ytfboegdibohciaa
open Go.RowKit Go.Shelf

/-- The first i values. -/
def ul (N C i : Nat) : List Int := (List.range i).map (uv N C)
theorem ul_len (N C i : Nat) : (ul N C i).length = i := by simp [ul]
theorem ul_snoc (N C i : Nat) : ul N C (i + 1) = ul N C i ++ [uv N C i] := by simp [ul, List.range_succ]
theorem ul_at {N C i j : Nat} (h : j < i) : ia (ul N C i) j = uv N C j := by
  unfold ia ul
  rw [List.getD_eq_getElem?_getD, List.getElem?_map, List.getElem?_range h]; rfl
theorem uv_bit {N V C y x q : Nat} (hq : q < C) : uv N C ((y * V + x) * C + q) = if N.testBit (bp V C y x q) then 1 else -1 := by
  have e1 : ((y * V + x) * C + q) / C = y * V + x := by rw [Nat.mul_comm, Nat.mul_add_div (by omega), Nat.div_eq_of_lt hq, Nat.add_zero]
  have e2 : ((y * V + x) * C + q) % C = q := by rw [Nat.mul_comm, Nat.mul_add_mod, Nat.mod_eq_of_lt hq]
  unfold uv sg
  rw [e1, e2, pl_bit]
  have h1 : q < 64 * nw C := Nat.lt_of_lt_of_le hq (nw_le C)
  have h2 : 64 * ((y * V + x) * nw C) + q = bp V C y x q := rfl
  simp [h1, h2]
theorem own_ge {w : World} {base e n : Nat} {v : Value} {xs : List Value} (h : w.ownsRow base e 1 v n xs) : ∀ k, v.ownBlock = some k → base ≤ k := by
  intro k hk
  rcases h.2 with ⟨rfl, _⟩ | ⟨g, cap, cur, rfl, hg, _⟩
  · simp [Value.ownBlock] at hk
  · simp [Value.ownBlock] at hk; omega
theorem own_keepK {w w' : World} {base e n : Nat} {v : Value} {xs : List Value} (h : w.ownsRow base e 1 v n xs) (hb : Below w.heap.size w w') : w'.ownsRow base e 1 v n xs := by
  refine ⟨h.1, ?_⟩
  rcases h.2 with q | ⟨g, cap, cur, h1, h2, h3, h4⟩
  · exact .inl q
  · exact .inr ⟨g, cap, cur, h1, h2, (hb.block g (Array.getElem?_eq_some_iff.1 h3).1).trans h3, h4⟩
set_option maxHeartbeats 800000 in
set_option maxRecDepth 100000 in
theorem runpack_bad (h v c : Int) (ao : Option Addr) (m cap N : Nat) (w : World) (rd : Wr w ao m N) (k : cuk h v c m N ≠ 0) :
    Calls Try.prog 23 #[cuv h v c ao m cap] w fun e w' => e = .returned (.tuple #[.slice none 0 0, .int .i64 (cuk h v c m N)]) ∧ Below w.heap.size w w' := by
  have HC := hid1 (fun W r => rccheck_any h v c ao m cap N W r)
  generalize cuk h v c m N = q at *
  go_enter Try.func23, Try.ntmps23
  go_wp2_with fail
  refine gen_calls (fun W => Below w.heap.size w W) (bl_alloc (Below.refl _ _) _) ?_
  rintro W B0
  refine (HC.out W (rd.below B0)).mono ?_
  rintro e w1 ⟨rfl, hb⟩
  go_wp2_with fail
  go_ret2
  exact ⟨rfl, bl_step B0 hb⟩
/-- The memory that Unpack goes through: the box, the list so far. -/
def Um (w W : World) (H V C g o m cap N i : Nat) (u : Value) : Prop := W.rowIs w.heap.size 31 4 (cf H V C (some ⟨g, o, none⟩) m cap) ∧ W.ownsRow (w.heap.size + 1) 47 1 u i (i8s (ul N C i)) ∧ Below w.heap.size w W
theorem Um.form {w W : World} {H V C g o m cap N i : Nat} {u : Value} (h : Um w W H V C g o m cap N i u) : ∃ ao cp, u = .slice ao i cp := by
  rcases h.2.1.2 with ⟨rfl, e⟩ | ⟨q, cp, _, rfl, _⟩
  · subst e; exact ⟨_, _, rfl⟩
  · exact ⟨_, _, rfl⟩
theorem Um.next {w W X : World} {H V C g o m cap N i : Nat} {u v' : Value} {val : Int} {ob : Obj} (hr : W.rowIs w.heap.size 31 4 (cf H V C (some ⟨g, o, none⟩) m cap)) (ho : W.ownsRow (w.heap.size + 1) 47 1 u i (i8s (ul N C i))) (hb : Below w.heap.size w W)
    (k1 : X.ownsRow (w.heap.size + 1) 47 1 v' (i + 1) (i8s (ul N C i) ++ [.int .i8 val])) (k2 : (W.alloc ob).grownBy X u.ownBlock) (hv : uv N C i = val) : Um w X H V C g o m cap N (i + 1) v' := by
  refine ⟨(hr.alloc ob).of_block (k2.block _ (hr.alloc ob).lt fun e => ?_), ?_, (bl_alloc hb ob).grown k2 (bl_alloc hb ob).size fun j e => ?_⟩
  · have := own_ge ho _ e.symm; omega
  · rw [ul_snoc, i8s_snoc, hv]; exact k1
  · have := own_ge ho _ e; omega
set_option maxHeartbeats 3200000 in
set_option maxRecDepth 100000 in
theorem runpack_ok (H V C g o m cap N T : Nat) (w : World) (hH : 1 ≤ H ∧ H ≤ 4096) (hV : 1 ≤ V ∧ V ≤ 4096) (hC : 1 ≤ C ∧ C ≤ 4096) (hT : T = H * V * C) (hT2 : T ≤ 16777216) (k : cuk H V C m N = 0) (hm : m = H * V * nw C) (rd : Wr w (some ⟨g, o, none⟩) m N) :
    Calls Try.prog 23 #[cuv H V C (some ⟨g, o, none⟩) m cap] w fun e w' => ∃ ao cp, e = .returned (.tuple #[.slice ao T cp, .int .i64 0]) ∧ w'.ownsRow (w.heap.size + 1) 47 1 (.slice ao T cp) T (i8s (ul N C T)) ∧ Below w.heap.size w w' := by
  obtain ⟨i0, hi0, hz0, hz1, hz2⟩ := info_parts info_i8k
  have HC := hid1 (fun W r => rccheck_any H V C (some ⟨g, o, none⟩) m cap N W r)
  rw [k] at HC
  have hbd := (wo_bd hH.2 hV.2 hC.2).2
  rw [← hm] at hbd
  have HBit := hid1 (fun y x q W hy hx hq hi r => bit_any H V C g o m cap N y x q W hV.2 hC.2 hy hx hq hi hbd r)
  have HI : ∀ y x, y < H → x < V → (y * V + x) * nw C + nw C ≤ m := fun y x hy hx => by
    have h1 : (y + 1) * V ≤ H * V := Nat.mul_le_mul_right _ hy
    rw [Nat.succ_mul] at h1
    rw [hm, ← Nat.succ_mul]
    exact Nat.mul_le_mul_right _ (by omega)
  have HJ : ∀ y x q, y < H → x < V → q < C → (y * V + x) * C + q < T := fun y x q hy hx hq => by
    have h1 : (y + 1) * V ≤ H * V := Nat.mul_le_mul_right _ hy
    rw [Nat.succ_mul] at h1
    have h2 : (y * V + x + 1) * C ≤ H * V * C := Nat.mul_le_mul_right _ (by omega)
    rw [Nat.succ_mul] at h2
    omega
  have HU := hid1 (fun y x q hq => uv_bit (N := N) (V := V) (C := C) (y := y) (x := x) (q := q) hq)
  have HTT := hid1 hT
  have RD := hid1 rd
  clear hT k hm rd
  go_enter Try.func23, Try.ntmps23
  go_wp2_with fail
  refine gen_calls (fun W => Below w.heap.size w W ∧ W.rowIs w.heap.size 31 4 (cf H V C (some ⟨g, o, none⟩) m cap)) ⟨bl_alloc (Below.refl _ _) _, cu_new w _ _ _ _ _ _ _⟩ ?_
  rintro W ⟨B0, r0⟩
  refine (HC.out W (RD.out.below B0)).mono ?_
  rintro e w1 ⟨rfl, hb⟩
  have HPM : Hid (Um w w1 H V C g o m cap N 0 (.slice none 0 0)) := hid1 ⟨keepr hb r0, World.ownsRow_nil _ _ _ _, bl_step B0 hb⟩
  clear hb B0 r0 HC
  go_wp2_with fail
  go_loopw [5, 6] (fun s5 s6 wr => ∃ y i : Nat, y ≤ H ∧ i = y * V * C ∧ s6 = .int .i64 y ∧ Um w wr H V C g o m cap N i s5) (fun _ s6 _ => H - (intOf s6).toNat)
  case atStart => exact ⟨0, 0, Nat.zero_le _, by simp, rfl, HPM.out⟩
  case round =>
    clear HPM
    obtain ⟨y, i, hy, hi, rfl, PM⟩ := hrel
    obtain ⟨la, lc, rfl⟩ := PM.form
    have e0 := cf0 PM.1
    by_cases hyl : y < H
    · have iy : (y : Int) < (H : Int) := by omega
      have HP1 := hid1 PM
      have HI1 := hid1 hi
      clear PM hi
      go_wp2_with fail
      go_loopw [5, 7] (fun s5 s7 wr => ∃ x i : Nat, x ≤ V ∧ i = (y * V + x) * C ∧ s7 = .int .i64 x ∧ Um w wr H V C g o m cap N i s5) (fun _ s7 _ => V - (intOf s7).toNat)
      case atStart => exact ⟨0, i, Nat.zero_le _, by rw [HI1.out]; rfl, rfl, HP1.out⟩
      case round =>
        clear HP1 HI1 e0
        obtain ⟨x, i, hx, hi, rfl, PM⟩ := hrel
        obtain ⟨la, lc, rfl⟩ := PM.form
        have e1 := cf1 PM.1
        by_cases hxl : x < V
        · have ix : (x : Int) < (V : Int) := by omega
          have HP1 := hid1 PM
          have HI1 := hid1 hi
          clear PM hi
          go_wp2_with fail
          go_loopw [5, 8] (fun s5 s8 wr => ∃ q i : Nat, q ≤ C ∧ i = (y * V + x) * C + q ∧ s8 = .int .i64 q ∧ Um w wr H V C g o m cap N i s5) (fun _ s8 _ => C - (intOf s8).toNat)
          case atStart => exact ⟨0, i, Nat.zero_le _, by rw [HI1.out]; rfl, rfl, HP1.out⟩
          case round =>
            clear HP1 HI1 e1
            obtain ⟨q, i, hq, hi, rfl, PM⟩ := hrel
            obtain ⟨la, lc, rfl⟩ := PM.form
            have e2 := cf2 PM.1
            by_cases hql : q < C
            · have iq : (q : Int) < (C : Int) := by omega
              have hiT : i < T := by rw [hi]; exact HJ y x q hyl hxl hql
              have HU1 := hid1 (HU.out y x q hql)
              rw [← hi] at HU1
              have d0 := cf0 PM.1
              have d1 := cf1 PM.1
              have d3 := cf3 PM.1
              have HP1 := hid1 PM
              have HI1 := hid1 hi
              clear PM hi
              go_wp2_with fail
              refine (HBit.out y x q _ (by omega) (by omega) hql (HI y x hyl hxl) (RD.out.below HP1.out.2.2)).mono ?_
              rintro e w5 ⟨rfl, hb⟩
              generalize N.testBit (bp V C y x q) = bb at *
              have B5 := bl_step HP1.out.2.2 hb
              have R5 := keepr hb HP1.out.1
              have O5 := own_keepK HP1.out.2.1 hb
              have l5 := R5.lt
              have HB5 := hid1 B5
              have HR5 := hid1 R5
              have HO5 := hid1 O5
              clear hb HP1 d0 d1 d3 e2 B5 R5 O5
              cases bb
              · replace HU1 : Hid (uv N C i = -1) := hid1 HU1.out
                go_wp2_with (at_builtin; refine wpList_append_own _ rfl _ _ 28 rfl (w.heap.size + 1) 47 i0 (.int .i8 0) 1 1 und_i8sk hi0 hz0 hz1 hz2 rfl (by decide) (.slice la i lc) i (i8s (ul N C i)) (by go_simp) (HO5.out.alloc _) ⟨w5.heap.size, 0, none⟩ 1 1 [.int .i8 (-1)] (by go_simp) rfl (cell_one_new _ _ _) (fun x hx => by simp at hx; subst hx; rfl) (by unfold maxLen; omega) (by omega) (by simp; omega) ?_; intro v' w6 k1 k2 k3)
                have UM := Um.next HR5.out HO5.out HB5.out k1 k2 HU1.out
                obtain ⟨na, nc, rfl⟩ := UM.form
                have HUM := hid1 UM
                clear k1 k2 k3 UM
                go_wp2_with fail
                exact ⟨⟨q + 1, i + 1, by omega, by have := HI1.out; omega, by go_num, HUM.out⟩, by simp [intOf]; omega⟩
              · replace HU1 : Hid (uv N C i = 1) := hid1 HU1.out
                go_wp2_with (at_builtin; refine wpList_append_own _ rfl _ _ 28 rfl (w.heap.size + 1) 47 i0 (.int .i8 0) 1 1 und_i8sk hi0 hz0 hz1 hz2 rfl (by decide) (.slice la i lc) i (i8s (ul N C i)) (by go_simp) (HO5.out.alloc _) ⟨w5.heap.size, 0, none⟩ 1 1 [.int .i8 (1)] (by go_simp) rfl (cell_one_new _ _ _) (fun x hx => by simp at hx; subst hx; rfl) (by unfold maxLen; omega) (by omega) (by simp; omega) ?_; intro v' w6 k1 k2 k3)
                have UM := Um.next HR5.out HO5.out HB5.out k1 k2 HU1.out
                obtain ⟨na, nc, rfl⟩ := UM.form
                have HUM := hid1 UM
                clear k1 k2 k3 UM
                go_wp2_with fail
                exact ⟨⟨q + 1, i + 1, by omega, by have := HI1.out; omega, by go_num, HUM.out⟩, by simp [intOf]; omega⟩
            · have hqC : q = C := by omega
              subst hqC
              have HP1 := hid1 PM
              have HI1 := hid1 hi
              clear PM hi
              go_wp2_with fail
              exact ⟨⟨x + 1, i, by omega, by rw [HI1.out, ← Nat.add_assoc, Nat.succ_mul], by go_num, HP1.out⟩, by simp [intOf]; omega⟩
        · have hxV : x = V := by omega
          subst hxV
          have HP1 := hid1 PM
          have HI1 := hid1 hi
          clear PM hi
          go_wp2_with fail
          exact ⟨⟨y + 1, i, by omega, by rw [HI1.out, Nat.succ_mul], by go_num, HP1.out⟩, by simp [intOf]; omega⟩
    · have hyH : y = H := by omega
      subst hyH
      have HP1 := hid1 PM
      have HI1 := hid1 hi
      clear PM hi HBit HI HJ HU
      go_wp2_with fail
      go_ret2
      have e : i = T := by rw [HI1.out, HTT.out]
      subst e
      exact ⟨_, _, rfl, HP1.out.2.1, HP1.out.2.2⟩
end Go.Proofs.Ytfboegdibohciaa
/- THE DOCUMENT'S OWN Row, Flat. -/
namespace Go.Proofs.Ytfboegdibohciaa
open Go.RowKit Go.Shelf

set_option maxHeartbeats 1600000 in
set_option maxRecDepth 100000 in
theorem rrow_any (l : List Int) (n : Nat) (hl : l.length = n) (ao : Option Addr) (cap : Nat) (w : World) (h1 : n ≤ 16777216) (rd : R8 w ao l) :
    Calls Try.prog 47 #[.slice ao n cap] w fun e w' => ∃ G, e = .returned (rv n (some ⟨G, 0, none⟩) (nw n) (nw n)) ∧ w.heap.size ≤ G ∧ w'.rowIs G 53 (nw n) (wf (pk l n)) ∧ Below w.heap.size w w' := by
  obtain ⟨i0, hi, hz0, hz1, hz2⟩ := info_parts info_u64
  have HD := hid1 (deep_any n h1)
  have hb := nw_bd h1
  have HR := hid1 rd
  clear rd
  have HQ1 : Hid (∀ k, k < n → k / 64 < nw n) := hid1 fun k hk => by unfold nw; omega
  obtain ⟨d, hd⟩ : ∃ d, nw n = d := ⟨_, rfl⟩
  rw [hd] at HD hb HQ1 ⊢
  clear hd
  go_enter Try.func47, Try.ntmps47
  go_wp2_with (first | (go_at_call 46; refine (HD.out _).mono ?_; rintro e w2 ⟨rfl, rfl⟩) | (refine wpList_make_row _ rfl _ _ 29 rfl 53 i0 (.int .u64 0) und_u64s hi hz0 hz1 rfl .i64 .i64 d (by go_simp) (by go_simp) (by rw [hz2]; omega) (by omega) ?_))
  have A1 : (((w.alloc (.cells #[.int .i64 0, .slice none 0 0] 33)).alloc (.cells (madeCells #[.int .u64 0] d) 53)).alloc (.cells #[.int .i64 n, .slice (some ⟨w.heap.size + 1, 0, none⟩) d d] 33)).rowIs w.heap.size 33 2 (sf 0 none 0 0) := ((row_new w 0 none 0 0 _).alloc _).alloc _
  have A2 : (((w.alloc (.cells #[.int .i64 0, .slice none 0 0] 33)).alloc (.cells (madeCells #[.int .u64 0] d) 53)).alloc (.cells #[.int .i64 n, .slice (some ⟨w.heap.size + 1, 0, none⟩) d d] 33)).rowIs (w.heap.size + 1) 53 d (wf (pk l 0)) := by
    have := World.rowIs_made (w.alloc (.cells #[.int .i64 0, .slice none 0 0] 33)) (.int .u64 0) d 53
    rw [World.size_alloc] at this
    exact (this.alloc _).congr fun j _ => by simp [wf, wd_zero, pk]
  have A3 : (((w.alloc (.cells #[.int .i64 0, .slice none 0 0] 33)).alloc (.cells (madeCells #[.int .u64 0] d) 53)).alloc (.cells #[.int .i64 n, .slice (some ⟨w.heap.size + 1, 0, none⟩) d d] 33)).rowIs (w.heap.size + 2) 33 2 (sf n (some ⟨w.heap.size + 1, 0, none⟩) d d) := by
    have := row_new ((w.alloc (.cells #[.int .i64 0, .slice none 0 0] 33)).alloc (.cells (madeCells #[.int .u64 0] d) 53)) n (some ⟨w.heap.size + 1, 0, none⟩) d d 33
    rw [World.size_alloc, World.size_alloc] at this
    exact this
  have A4 := bl_alloc (bl_alloc (bl_alloc (Below.refl w.heap.size w) (.cells #[.int .i64 0, .slice none 0 0] 33)) (.cells (madeCells #[.int .u64 0] d) 53)) (.cells #[.int .i64 n, .slice (some ⟨w.heap.size + 1, 0, none⟩) d d] 33)
  go_loopw [4] (fun i wr => ∃ k : Nat, k ≤ n ∧ i = .int .i64 k ∧ wr.rowIs w.heap.size 33 2 (sf 0 none 0 0) ∧ wr.rowIs (w.heap.size + 1) 53 d (wf (pk l k)) ∧ wr.rowIs (w.heap.size + 2) 33 2 (sf n (some ⟨w.heap.size + 1, 0, none⟩) d d) ∧ Below w.heap.size w wr) (fun i _ => n - (intOf i).toNat)
  case atStart => exact ⟨0, Nat.zero_le _, rfl, A1, A2, A3, A4⟩
  case round =>
    clear A1 A2 A3 A4 HD
    obtain ⟨k, hk, rfl, q0, q1, q2, hnx⟩ := hrel
    by_cases hlt : k < n
    · obtain ⟨ga, oa, rfl, c8⟩ := (HR.out.below hnx) k (by omega)
      have ik : (k : Int) < (n : Nat) := by omega
      have ik0 : (0 : Int) ≤ (k : Int) := by omega
      have HP := hid1 (pk_wd l k)
      by_cases h0 : 0 < ia l k
      · obtain ⟨q, hq⟩ : ∃ q : Nat, k / 64 = q := ⟨_, rfl⟩
        obtain ⟨r, hr⟩ : ∃ r : Nat, k % 64 = r := ⟨_, rfl⟩
        have eq : (k : Int) / 64 = (q : Int) := by omega
        have eq' : (k : Int).tdiv 64 = (q : Int) := by rw [Int.tdiv_eq_ediv_of_nonneg (by omega)]; exact eq
        have er : (k : Int) % 64 = (r : Int) := by omega
        have er' : (k : Int).tmod 64 = (r : Int) := by rw [Int.tmod_eq_emod_of_nonneg (by omega)]; exact er
        have q1' : q < d := by rw [← hq]; exact HQ1.out k hlt
        have iq0 : (0 : Int) ≤ (q : Int) := by omega
        have iq1 : (q : Int) < (d : Nat) := by omega
        have ir0 : (0 : Int) ≤ (r : Int) := by omega
        have ir1 : (r : Int) ≤ 63 := by omega
        have wq : IntKind.i64.wrap (q : Int) = q := by rw [IntKind.wrap_i64]; omega
        have cw := q1.cell q1'
        have fw := q1.frozen q
        have c41 : wr.cell? ⟨w.heap.size + 1 + 1, 1, none⟩ = _ := sf_ws q2
        have c41' := sf_ws q2
        unfold wf at cw
        have hx := wd_lt (pk l k) q
        rw [hq, hr] at HP
        have H64 : (2 : Nat) ^ r < 18446744073709551616 := by rw [two64]; exact Nat.pow_lt_pow_right (by decide) (by omega)
        have HO : Hid (bits .or .u64 (wd (pk l k) q : Nat) (IntKind.u64.wrap (2 ^ r)) = ((wd (pk l k) q ||| 2 ^ r : Nat) : Int)) := by
          have e : IntKind.u64.wrap (2 ^ r) = ((2 ^ r : Nat) : Int) := by
            rw [show ((2 : Int) ^ r) = ((2 ^ r : Nat) : Int) by simp, IntKind.wrap_u64]
            generalize 2 ^ r = y at *; omega
          rw [e]; exact or_u64 _ _ hx H64
        have H0 := hid1 q0
        have H1 := hid1 q1
        have H2 := hid1 q2
        clear q0 q1 q2 hx H64 hq hr
        go_wp2_with fail
        refine still_tail 15 (by kernel_rfl) ?_
        simp only [List.take_succ_cons, List.take_zero, List.drop_succ_cons, List.drop_zero]
        repeat still_step
        refine wpStill_nil ?_
        go_wp2_with fail
        refine ⟨⟨k + 1, by omega, by go_num, (H0.out.setOther (a := ⟨w.heap.size + 1, q, none⟩) (by show w.heap.size ≠ w.heap.size + 1; omega) _).drew, ((H1.out.set q _).congr fun j _ => ?_).drew, (H2.out.setOther (a := ⟨w.heap.size + 1, q, none⟩) (by show w.heap.size + 2 ≠ w.heap.size + 1; omega) _).drew, (bl_set hnx (by omega) _).drew⟩, by simp [intOf]; omega⟩
        simp only [wf]
        rw [HP.out j, if_pos h0]
        by_cases e : j = q
        · subst e
          rw [if_pos rfl, if_pos rfl, HO.out]
        · rw [if_neg e, if_neg e]
      · have hp : pk l (k + 1) = pk l k := by simp only [pk]; rw [if_neg h0]; simp
        have H0 := hid1 q0
        have H1 := hid1 q1
        have H2 := hid1 q2
        have HE := hid1 hp
        clear q0 q1 q2 HP hp
        go_wp2_with fail
        exact ⟨⟨k + 1, by omega, by go_num, H0.out, by rw [HE.out]; exact H1.out, H2.out, hnx⟩, by simp [intOf]; omega⟩
    · have hkN : k = n := by omega
      subst hkN
      have c20 : wr.cell? ⟨w.heap.size + 1 + 1, 0, none⟩ = _ := sf_len q2
      have c21 : wr.cell? ⟨w.heap.size + 1 + 1, 1, none⟩ = _ := sf_ws q2
      have c20' := sf_len q2
      have c21' := sf_ws q2
      have c00 := sf_len q0
      have c01 := sf_ws q0
      have f0 := q0.frozen 0
      have f1 := q0.frozen 1
      have H0 := hid1 q0
      have H1 := hid1 q1
      clear q0 q1 q2
      go_wp2_with fail
      have hc := rs_set H0.out k (some ⟨w.heap.size + 1, 0, none⟩) d d
      have m0 := sf_len hc
      have m1 := sf_ws hc
      exact bodyPost_ret (v := rv k (some ⟨w.heap.size + 1, 0, none⟩) d d) (by simp [results, Try.results47, go_sem, m0, m1]) rfl ⟨w.heap.size + 1, rfl, by omega, (H1.out.setOther (a := ⟨w.heap.size, 0, none⟩) (by show w.heap.size + 1 ≠ w.heap.size; omega) _).setOther (a := ⟨w.heap.size, 1, none⟩) (by show w.heap.size + 1 ≠ w.heap.size; omega) _, bl_set (bl_set hnx (Nat.le_refl _) _) (Nat.le_refl _) _⟩
end Go.Proofs.Ytfboegdibohciaa
/- THE DOCUMENT'S OWN Flat, At. -/
namespace Go.Proofs.Ytfboegdibohciaa
open Go.RowKit Go.Shelf

theorem uv_pos (N C j : Nat) : decide (0 < uv N C j) = (pl N (nw C) (j / C)).testBit (j % C) := by
  unfold uv sg
  cases (pl N (nw C) (j / C)).testBit (j % C) <;> simp
theorem pk_ul {N C n : Nat} (hC : 0 < C) (hp : Pok n C N) : pk (ul N C (n * C)) (n * C) = js C (pl N (nw C)) n := by
  refine Nat.eq_of_testBit_eq fun j => ?_
  rw [pk_bit, js_bit hC n hp]
  by_cases h : j < n * C
  · rw [ul_at h, uv_pos]
  · simp [h]
theorem pk_seg {N C n i : Nat} (hC : 0 < C) (hp : Pok n C N) (hi : i < n) : pk (((ul N C (n * C)).drop (i * C)).take C) C = pl N (nw C) i := by
  have hle : i * C + C ≤ n * C := by rw [← Nat.succ_mul]; exact Nat.mul_le_mul_right _ hi
  refine Nat.eq_of_testBit_eq fun j => ?_
  rw [pk_bit]
  by_cases h : j < C
  · have e1 : (i * C + j) / C = i := by rw [Nat.mul_comm, Nat.mul_add_div hC, Nat.div_eq_of_lt h, Nat.add_zero]
    have e2 : (i * C + j) % C = j := by rw [Nat.mul_comm, Nat.mul_add_mod, Nat.mod_eq_of_lt h]
    rw [ia_take h, ia_drop, ul_at (by omega), uv_pos, e1, e2]
    simp [h]
  · rw [bit_above (hp i hi) (i := j) (by omega)]
    simp [h]
theorem own_r8 {w : World} {base n cp : Nat} {ao : Option Addr} {l : List Int} (hl : l.length = n) (h : w.ownsRow base 47 1 (.slice ao n cp) n (i8s l)) : R8 w ao l ∧ n ≤ cp ∧ cp ≤ 9223372036854775807 := by
  subst hl
  obtain ⟨ao', cp', e, h1, h2, _, _, h3⟩ := r8_own h
  cases e
  exact ⟨h3, h1, by unfold maxLen at h2; omega⟩
set_option maxHeartbeats 1600000 in
set_option maxRecDepth 100000 in
theorem rflat_bad (h v c : Int) (ao : Option Addr) (m cap N : Nat) (w : World) (rd : Wr w ao m N) (k : cuk h v c m N ≠ 0) :
    Calls Try.prog 26 #[cuv h v c ao m cap] w fun e w' => e = .returned (.tuple #[rv 0 none 0 0, .int .i64 (cuk h v c m N)]) ∧ Below w.heap.size w w' := by
  obtain ⟨W, eW, z0, B0, q0, q1⟩ := at_start w h v c ao m cap
  have e0 := cf0 q0
  have e1 := cf1 q0
  have e2 := cf2 q0
  have e3 := cf3 q0
  have HC := hid1 (runpack_bad h v c ao m cap N W (rd.below B0) k)
  generalize cuk h v c m N = q at *
  go_enter Try.func26, Try.ntmps26
  go_wp2_with fail
  refine HC.out.mono ?_
  rintro e w1 ⟨rfl, hb⟩
  clear e0 e1 e2 e3 eW
  replace q1 := keepr hb q1
  have d0 := sf_len q1
  have d1 := sf_ws q1
  have f0 := q1.frozen 0
  have f1 := q1.frozen 1
  have B1 := bl_step B0 hb
  clear q0 q1 hb B0 HC
  go_wp2_with fail
  exact bodyPost_ret (v := .tuple #[rv 0 none 0 0, .int .i64 q]) (by simp [results, Try.results26, go_sem, d0, d1]) rfl ⟨rfl, bl_set (bl_set B1 (by omega) _) (by omega) _⟩
set_option maxHeartbeats 1600000 in
set_option maxRecDepth 100000 in
theorem rflat_ok (H V C g o m cap N T : Nat) (w : World) (hH : 1 ≤ H ∧ H ≤ 4096) (hV : 1 ≤ V ∧ V ≤ 4096) (hC : 1 ≤ C ∧ C ≤ 4096) (hT : T = H * V * C) (hT2 : T ≤ 16777216) (k : cuk H V C m N = 0) (hm : m = H * V * nw C) (hp : Pok (H * V) C N) (rd : Wr w (some ⟨g, o, none⟩) m N) :
    Calls Try.prog 26 #[cuv H V C (some ⟨g, o, none⟩) m cap] w fun e w' => ∃ G, e = .returned (.tuple #[rv T (some ⟨G, 0, none⟩) (nw T) (nw T), .int .i64 0]) ∧ w.heap.size ≤ G ∧ w'.rowIs G 53 (nw T) (wf (js C (pl N (nw C)) (H * V))) ∧ Below w.heap.size w w' := by
  obtain ⟨W, eW, z0, B0, q0, q1⟩ := at_start w H V C (some ⟨g, o, none⟩) m cap
  have e0 := cf0 q0
  have e1 := cf1 q0
  have e2 := cf2 q0
  have e3 := cf3 q0
  have HC := hid1 (runpack_ok H V C g o m cap N T W hH hV hC hT hT2 k hm (rd.below B0))
  have HPK : Hid (pk (ul N C T) T = js C (pl N (nw C)) (H * V)) := hid1 (by rw [hT]; exact pk_ul hC.1 hp)
  generalize js C (pl N (nw C)) (H * V) = FL at *
  clear hT k hm hp rd
  go_enter Try.func26, Try.ntmps26
  go_wp2_with fail
  refine HC.out.mono ?_
  rintro e w1 ⟨la, lc, rfl, own, hb⟩
  clear e0 e1 e2 e3 eW
  replace q1 := keepr hb q1
  have B1 := bl_step B0 hb
  have z1 := hb.size
  obtain ⟨r8, _, _⟩ := own_r8 (ul_len N C T) own
  clear q0 hb B0 HC own
  go_wp2_with fail
  refine (rrow_any (ul N C T) T (ul_len N C T) la lc w1 hT2 r8).mono ?_
  rintro e w2 ⟨G, rfl, hG, row, hb⟩
  replace q1 := keepr hb q1
  have B2 := bl_step B1 hb
  rw [HPK.out] at row
  have d0 := sf_len q1
  have d1 := sf_ws q1
  have f0 := q1.frozen 0
  have f1 := q1.frozen 1
  have H1 := hid1 q1
  have HR := hid1 row
  clear q1 row hb B1 r8
  go_wp2_with fail
  have hc := rs_set H1.out T (some ⟨G, 0, none⟩) (nw T) (nw T)
  have m0 := sf_len hc
  have m1 := sf_ws hc
  exact bodyPost_ret (v := .tuple #[rv T (some ⟨G, 0, none⟩) (nw T) (nw T), .int .i64 0]) (by simp [results, Try.results26, go_sem, m0, m1]) rfl ⟨G, rfl, by omega, (HR.out.setOther (a := ⟨w.heap.size + 1, 0, none⟩) (by show G ≠ w.heap.size + 1; omega) _).setOther (a := ⟨w.heap.size + 1, 1, none⟩) (by show G ≠ w.heap.size + 1; omega) _, bl_set (bl_set B2 (by omega) _) (by omega) _⟩
end Go.Proofs.Ytfboegdibohciaa
/- THE DOCUMENT'S OWN At. -/
namespace Go.Proofs.Ytfboegdibohciaa
open Go.RowKit Go.Shelf

set_option maxHeartbeats 1600000 in
set_option maxRecDepth 100000 in
theorem rat_chk (h v c y x : Int) (ao : Option Addr) (m cap N : Nat) (w : World) (rd : Wr w ao m N) (k : cuk h v c m N ≠ 0) :
    Calls Try.prog 25 #[cuv h v c ao m cap, .int .i64 y, .int .i64 x] w fun e w' => e = .returned (.tuple #[rv 0 none 0 0, .int .i64 (cuk h v c m N)]) ∧ Below w.heap.size w w' := by
  obtain ⟨W, eW, z0, B0, q0, q1⟩ := at_start w h v c ao m cap
  have e0 := cf0 q0
  have e1 := cf1 q0
  have e2 := cf2 q0
  have e3 := cf3 q0
  have HC := hid1 (rccheck_any h v c ao m cap N W (rd.below B0))
  generalize cuk h v c m N = q at *
  go_enter Try.func25, Try.ntmps25
  go_wp2_with fail
  refine HC.out.mono ?_
  rintro e w1 ⟨rfl, hb⟩
  clear e0 e1 e2 e3 eW
  replace q1 := keepr hb q1
  have d0 := sf_len q1
  have d1 := sf_ws q1
  have f0 := q1.frozen 0
  have f1 := q1.frozen 1
  have B1 := bl_step B0 hb
  clear q0 q1 hb B0 HC
  go_wp2_with fail
  exact bodyPost_ret (v := .tuple #[rv 0 none 0 0, .int .i64 q]) (by simp [results, Try.results25, go_sem, d0, d1]) rfl ⟨rfl, bl_set (bl_set B1 (by omega) _) (by omega) _⟩
set_option maxHeartbeats 1600000 in
set_option maxRecDepth 100000 in
theorem rat_arg (h v c y x : Int) (ao : Option Addr) (m cap N : Nat) (w : World) (rd : Wr w ao m N) (k : cuk h v c m N = 0) (hb : y < 0 ∨ h ≤ y ∨ x < 0 ∨ v ≤ x) :
    Calls Try.prog 25 #[cuv h v c ao m cap, .int .i64 y, .int .i64 x] w fun e w' => e = .returned (.tuple #[rv 0 none 0 0, .int .i64 1]) ∧ Below w.heap.size w w' := by
  obtain ⟨W, eW, z0, B0, q0, q1⟩ := at_start w h v c ao m cap
  have e0 := cf0 q0
  have e1 := cf1 q0
  have e2 := cf2 q0
  have e3 := cf3 q0
  have HC := hid1 (rccheck_any h v c ao m cap N W (rd.below B0))
  rw [k] at HC
  go_enter Try.func25, Try.ntmps25
  go_wp2_with fail
  refine HC.out.mono ?_
  rintro e w1 ⟨rfl, hb1⟩
  clear e0 e1 e2 e3 eW
  replace q0 := keepr hb1 q0
  replace q1 := keepr hb1 q1
  have e0 := cf0 q0
  have e1 := cf1 q0
  have d0 := sf_len q1
  have d1 := sf_ws q1
  have f0 := q1.frozen 0
  have f1 := q1.frozen 1
  have B1 := bl_step B0 hb1
  clear q0 q1 hb1 B0 HC
  by_cases h1 : y < 0
  · clear hb
    go_wp2_with fail
    exact bodyPost_ret (v := .tuple #[rv 0 none 0 0, .int .i64 1]) (by simp [results, Try.results25, go_sem, d0, d1]) rfl ⟨rfl, bl_set (bl_set B1 (by omega) _) (by omega) _⟩
  by_cases h2 : h ≤ y
  · clear hb
    go_wp2_with fail
    exact bodyPost_ret (v := .tuple #[rv 0 none 0 0, .int .i64 1]) (by simp [results, Try.results25, go_sem, d0, d1]) rfl ⟨rfl, bl_set (bl_set B1 (by omega) _) (by omega) _⟩
  by_cases h3 : x < 0
  · clear hb
    go_wp2_with fail
    exact bodyPost_ret (v := .tuple #[rv 0 none 0 0, .int .i64 1]) (by simp [results, Try.results25, go_sem, d0, d1]) rfl ⟨rfl, bl_set (bl_set B1 (by omega) _) (by omega) _⟩
  have h4 : v ≤ x := by omega
  clear hb
  go_wp2_with fail
  exact bodyPost_ret (v := .tuple #[rv 0 none 0 0, .int .i64 1]) (by simp [results, Try.results25, go_sem, d0, d1]) rfl ⟨rfl, bl_set (bl_set B1 (by omega) _) (by omega) _⟩
theorem r8_dropK {w : World} {g o : Nat} {l : List Int} (h : R8 w (some ⟨g, o, none⟩) l) (c : Nat) : R8 w (some ⟨g, o + c, none⟩) (l.drop c) := by
  intro k hk
  have hk' : c + k < l.length := by simp at hk; omega
  obtain ⟨g', o', e, cc⟩ := h (c + k) hk'
  cases e
  exact ⟨g, o + c, rfl, by rw [ia_drop, Nat.add_assoc]; exact cc⟩
set_option maxHeartbeats 1600000 in
set_option maxRecDepth 100000 in
theorem rat_ok (H V C g o m cap N T y x : Nat) (w : World) (hH : 1 ≤ H ∧ H ≤ 4096) (hV : 1 ≤ V ∧ V ≤ 4096) (hC : 1 ≤ C ∧ C ≤ 4096) (hT : T = H * V * C) (hT2 : T ≤ 16777216) (k : cuk H V C m N = 0) (hm : m = H * V * nw C) (hp : Pok (H * V) C N) (hy : y < H) (hx : x < V) (rd : Wr w (some ⟨g, o, none⟩) m N) :
    Calls Try.prog 25 #[cuv H V C (some ⟨g, o, none⟩) m cap, .int .i64 y, .int .i64 x] w fun e w' => ∃ G, e = .returned (.tuple #[rv C (some ⟨G, 0, none⟩) (nw C) (nw C), .int .i64 0]) ∧ w.heap.size ≤ G ∧ w'.rowIs G 53 (nw C) (wf (pl N (nw C) (y * V + x))) ∧ Below w.heap.size w w' := by
  obtain ⟨W, eW, z0, B0, q0, q1⟩ := at_start w H V C (some ⟨g, o, none⟩) m cap
  have e0 := cf0 q0
  have e1 := cf1 q0
  have e2 := cf2 q0
  have e3 := cf3 q0
  have HC := hid1 (rccheck_any H V C (some ⟨g, o, none⟩) m cap N W (rd.below B0))
  rw [k] at HC
  have HU := hid1 (fun W' (hb : Below w.heap.size w W') => runpack_ok H V C g o m cap N T W' hH hV hC hT hT2 k hm (rd.below hb))
  have hi : y * V + x < H * V := by
    have : (y + 1) * V ≤ H * V := Nat.mul_le_mul_right _ hy
    rw [Nat.succ_mul] at this
    omega
  have HPK : Hid (pk (((ul N C T).drop ((y * V + x) * C)).take C) C = pl N (nw C) (y * V + x)) := hid1 (by rw [hT]; exact pk_seg hC.1 hp hi)
  have hcT : (y * V + x) * C + C ≤ T := by
    rw [hT, ← Nat.succ_mul]; exact Nat.mul_le_mul_right _ hi
  have hyV : y * V ≤ 4096 * 4096 := Nat.mul_le_mul (by omega) hV.2
  have s1 : IntKind.i64.wrap ((y : Int) * (V : Int)) = ((y * V : Nat) : Int) := by
    rw [IntKind.wrap_i64]; push_cast; rw [← Int.natCast_mul]; omega
  have s2 : IntKind.i64.wrap (((y * V : Nat) : Int) + (x : Int)) = ((y * V + x : Nat) : Int) := by
    rw [IntKind.wrap_i64]; omega
  have s3 : IntKind.i64.wrap (((y * V + x : Nat) : Int) * (C : Int)) = (((y * V + x) * C : Nat) : Int) := by
    rw [IntKind.wrap_i64, ← Int.natCast_mul]; omega
  generalize pl N (nw C) (y * V + x) = PL at *
  obtain ⟨a, ha⟩ : ∃ a, y * V = a := ⟨_, rfl⟩
  rw [ha] at s1 s2 s3 hcT HPK
  obtain ⟨b, hb⟩ : ∃ b, a + x = b := ⟨_, rfl⟩
  rw [hb] at s2 s3 hcT HPK
  obtain ⟨i, hi'⟩ : ∃ i, b * C = i := ⟨_, rfl⟩
  rw [hi'] at s3 hcT HPK
  clear ha hb hi' hyV hi hT k hm hp rd
  have s4 : IntKind.i64.wrap ((i : Int) + (C : Int)) = ((i + C : Nat) : Int) := by rw [IntKind.wrap_i64]; omega
  go_enter Try.func25, Try.ntmps25
  go_wp2_with fail
  refine HC.out.mono ?_
  rintro e w1 ⟨rfl, hb⟩
  clear e0 e1 e2 e3 eW
  replace q0 := keepr hb q0
  replace q1 := keepr hb q1
  have B1 := bl_step B0 hb
  have z1 := hb.size
  clear hb B0 HC
  have e0 := cf0 q0
  have e1 := cf1 q0
  have e2 := cf2 q0
  have e3 := cf3 q0
  have n1 : ¬ (y : Int) < 0 := by omega
  have n2 : ¬ (H : Int) ≤ (y : Int) := by omega
  have n3 : ¬ (x : Int) < 0 := by omega
  have n4 : ¬ (V : Int) ≤ (x : Int) := by omega
  go_wp2_with fail
  refine (HU.out w1 B1).mono ?_
  rintro e w2 ⟨la, lc, rfl, own, hb⟩
  clear e0 e1 e2 e3
  replace q0 := keepr hb q0
  replace q1 := keepr hb q1
  have B2 := bl_step B1 hb
  have z2 := hb.size
  obtain ⟨r8, c1, c2⟩ := own_r8 (ul_len N C T) own
  obtain ⟨gl, ol, rfl, _⟩ := r8 0 (by rw [ul_len]; omega)
  have e0 := cf0 q0
  have e1 := cf1 q0
  have e2 := cf2 q0
  clear hb B1 HU own q0
  go_wp2_with fail
  have r8' := r8_take (r8_dropK r8 i) C
  have hln : (((ul N C T).drop i).take C).length = C := by rw [List.length_take, List.length_drop, ul_len]; omega
  refine (rrow_any (((ul N C T).drop i).take C) C hln (some ⟨gl, ol + i, none⟩) (lc - i) w2 (by omega) r8').mono ?_
  rintro e w3 ⟨G, rfl, hG, row, hb⟩
  replace q1 := keepr hb q1
  have B3 := bl_step B2 hb
  rw [HPK.out] at row
  have d0 := sf_len q1
  have d1 := sf_ws q1
  have f0 := q1.frozen 0
  have f1 := q1.frozen 1
  have H1 := hid1 q1
  have HR := hid1 row
  clear q1 row hb B2 r8 r8' e0 e1 e2
  go_wp2_with fail
  have hc := rs_set H1.out C (some ⟨G, 0, none⟩) (nw C) (nw C)
  have m0 := sf_len hc
  have m1 := sf_ws hc
  exact bodyPost_ret (v := .tuple #[rv C (some ⟨G, 0, none⟩) (nw C) (nw C), .int .i64 0]) (by simp [results, Try.results25, go_sem, m0, m1]) rfl ⟨G, rfl, by omega, (HR.out.setOther (a := ⟨w.heap.size + 1, 0, none⟩) (by show G ≠ w.heap.size + 1; omega) _).setOther (a := ⟨w.heap.size + 1, 1, none⟩) (by show G ≠ w.heap.size + 1; omega) _, bl_set (bl_set B3 (by omega) _) (by omega) _⟩
end Go.Proofs.Ytfboegdibohciaa
/- CubeAsks: both sides of Unpack, Flat, At as one. -/
namespace Go.Proofs.Ytfboegdibohciaa
open Go.RowKit Go.Shelf

theorem cuk_zeroA {h v c : Int} {m N : Nat} (k : cuk h v c m N = 0) : ∃ H V C : Nat, h = H ∧ v = V ∧ c = C ∧ (1 ≤ H ∧ H ≤ 4096) ∧ (1 ≤ V ∧ V ≤ 4096) ∧ (1 ≤ C ∧ C ≤ 4096) ∧ H * V * C ≤ 16777216 ∧ Sg.chk H V C = 0 ∧ m = H * V * nw C ∧ Pok (H * V) C N := by
  unfold cuk at k
  by_cases k0 : Sg.chk h v c = 0
  · obtain ⟨H, V, C, rfl, rfl, rfl, hH, hV, hC, hb⟩ := chk_nat k0
    rw [if_pos k0, Int.toNat_natCast, Int.toNat_natCast, Int.toNat_natCast] at k
    by_cases k1 : m = H * V * nw C
    · rw [if_pos k1] at k
      by_cases k2 : Pok (H * V) C N
      · exact ⟨H, V, C, rfl, rfl, rfl, hH, hV, hC, hb, k0, k1, k2⟩
      · rw [if_neg k2] at k; omega
    · rw [if_neg k1] at k; omega
  · rw [if_neg k0] at k; exact absurd k k0
theorem cuk_some {w : World} {ao : Option Addr} {H V C m N : Nat} (hH : 1 ≤ H) (hV : 1 ≤ V) (hC : 1 ≤ C) (hm : m = H * V * nw C) (rd : Wr w ao m N) : ∃ g o, ao = some ⟨g, o, none⟩ := by
  have hpos : 0 < m := by
    rw [hm]
    exact Nat.mul_pos (Nat.mul_pos (by omega) (by omega)) (by unfold nw; omega)
  obtain ⟨g, o, e, _⟩ := rd.2 0 hpos
  exact ⟨g, o, e⟩
theorem wr_nilK (w : World) (ao : Option Addr) : Wr w ao 0 0 := ⟨by simp, fun k hk => absurd hk (by simp)⟩
theorem rs_nilK (w : World) (ao : Option Addr) (f : Nat → Value) : Rs w ao 0 f := fun k hk => absurd hk (by simp)
/-- How many values Unpack answers. -/
def uT (h v c : Int) (m N : Nat) : Nat := if cuk h v c m N = 0 then h.toNat * v.toNat * c.toNat else 0
theorem uT_le (h v c : Int) (m N : Nat) : uT h v c m N ≤ 16777216 := by
  unfold uT
  by_cases k : cuk h v c m N = 0
  · obtain ⟨H, V, C, rfl, rfl, rfl, _, _, _, hb, _⟩ := cuk_zeroA k
    rw [if_pos k, Int.toNat_natCast, Int.toNat_natCast, Int.toNat_natCast]; exact hb
  · rw [if_neg k]; omega
theorem unpack_all (h v c : Int) (ao : Option Addr) (m cap N : Nat) (w : World) (hmc : m ≤ cap) (hcap : cap ≤ 9223372036854775807) (rd : Wr w ao m N) (E : Int) (T : Nat) (hE : cuk h v c m N = E) (hT : uT h v c m N = T) :
    Calls Try.prog 13 #[cuv h v c ao m cap] w fun e w' => ∃ bo K, e = .returned (.tuple #[.slice bo T K, .int .i64 E]) ∧ Rs w' bo T (fun k => .int .i8 (uv N c.toNat k)) ∧ Below w.heap.size w w' := by
  subst hE hT
  unfold uT
  by_cases k : cuk h v c m N = 0
  · obtain ⟨H, V, C, rfl, rfl, rfl, hH, hV, hC, hb, k0, hm, hp⟩ := cuk_zeroA k
    obtain ⟨g, o, rfl⟩ := cuk_some hH.1 hV.1 hC.1 hm rd
    rw [if_pos k, Int.toNat_natCast, Int.toNat_natCast, Int.toNat_natCast]
    refine (cunpack_ok H V C g o m cap N w hH hV hC hb k hm hmc hcap rd).mono ?_
    rintro e w' ⟨G, rfl, _, row, hb'⟩
    exact ⟨_, _, by rw [k], Rs.row row, hb'⟩
  · rw [if_neg k]
    refine (cunpack_bad h v c ao m cap N w hmc hcap rd k).mono ?_
    rintro e w' ⟨rfl, hb⟩
    exact ⟨_, _, rfl, rs_nilK _ _ _, hb⟩
theorem runpack_all (h v c : Int) (ao : Option Addr) (m cap N : Nat) (w : World) (rd : Wr w ao m N) (E : Int) (T : Nat) (hE : cuk h v c m N = E) (hT : uT h v c m N = T) :
    Calls Try.prog 23 #[cuv h v c ao m cap] w fun e w' => ∃ bo K, e = .returned (.tuple #[.slice bo T K, .int .i64 E]) ∧ Rs w' bo T (fun k => .int .i8 (uv N c.toNat k)) ∧ Below w.heap.size w w' := by
  subst hE hT
  unfold uT
  by_cases k : cuk h v c m N = 0
  · obtain ⟨H, V, C, rfl, rfl, rfl, hH, hV, hC, hb, k0, hm, hp⟩ := cuk_zeroA k
    obtain ⟨g, o, rfl⟩ := cuk_some hH.1 hV.1 hC.1 hm rd
    rw [if_pos k, Int.toNat_natCast, Int.toNat_natCast, Int.toNat_natCast]
    refine (runpack_ok H V C g o m cap N _ w hH hV hC rfl hb k hm rd).mono ?_
    rintro e w' ⟨la, lc, rfl, own, hb'⟩
    refine ⟨_, _, by rw [k], ?_, hb'⟩
    obtain ⟨r8, _, _⟩ := own_r8 (ul_len N C _) own
    intro j hj
    obtain ⟨g', o', e, cc⟩ := r8 j (by rw [ul_len]; exact hj)
    exact ⟨g', o', e, by rw [cc, ul_at hj]⟩
  · rw [if_neg k]
    refine (runpack_bad h v c ao m cap N w rd k).mono ?_
    rintro e w' ⟨rfl, hb⟩
    exact ⟨_, _, rfl, rs_nilK _ _ _, hb⟩
/-- What Flat answers: its length, its words, the number that they make. -/
def fS (h v c : Int) (m N : Nat) : Int × Nat × Nat := if cuk h v c m N = 0 then ((h.toNat * v.toNat * c.toNat : Nat), nw (h.toNat * v.toNat * c.toNat), js c.toNat (pl N (nw c.toNat)) (h.toNat * v.toNat)) else (0, 0, 0)
theorem flat_lt {H V C N : Nat} (hp : Pok (H * V) C N) : js C (pl N (nw C)) (H * V) < 2 ^ (64 * nw (H * V * C)) :=
  Nat.lt_of_lt_of_le (js_lt (s := C) (fun i hi => hp i hi)) (pow_mono (nw_le (H * V * C)))
theorem flat_all (h v c : Int) (ao : Option Addr) (m cap N : Nat) (w : World) (hmc : m ≤ cap) (hcap : cap ≤ 9223372036854775807) (rd : Wr w ao m N) (E n : Int) (k' P : Nat) (hE : cuk h v c m N = E) (hS : fS h v c m N = (n, k', P)) :
    Calls Try.prog 12 #[cuv h v c ao m cap] w fun e w' => ∃ bo K, e = .returned (.tuple #[rv n bo k' K, .int .i64 E]) ∧ Wr w' bo k' P ∧ Below w.heap.size w w' := by
  subst hE
  unfold fS at hS
  by_cases k : cuk h v c m N = 0
  · obtain ⟨H, V, C, rfl, rfl, rfl, hH, hV, hC, hb, k0, hm, hp⟩ := cuk_zeroA k
    obtain ⟨g, o, rfl⟩ := cuk_some hH.1 hV.1 hC.1 hm rd
    rw [if_pos k, Int.toNat_natCast, Int.toNat_natCast, Int.toNat_natCast] at hS
    cases hS
    refine (cflat_ok H V C g o m cap N w hH hV hC hb k hm hmc hcap hp rd).mono ?_
    rintro e w' ⟨G, rfl, _, row, hb'⟩
    exact ⟨_, _, by rw [k], Wr.row row (flat_lt hp), hb'⟩
  · rw [if_neg k] at hS
    cases hS
    refine (cflat_bad h v c ao m cap N w hmc hcap rd k).mono ?_
    rintro e w' ⟨rfl, hb⟩
    exact ⟨_, _, rfl, wr_nilK _ _, hb⟩
theorem rflat_all (h v c : Int) (ao : Option Addr) (m cap N : Nat) (w : World) (rd : Wr w ao m N) (E n : Int) (k' P : Nat) (hE : cuk h v c m N = E) (hS : fS h v c m N = (n, k', P)) :
    Calls Try.prog 26 #[cuv h v c ao m cap] w fun e w' => ∃ bo K, e = .returned (.tuple #[rv n bo k' K, .int .i64 E]) ∧ Wr w' bo k' P ∧ Below w.heap.size w w' := by
  subst hE
  unfold fS at hS
  by_cases k : cuk h v c m N = 0
  · obtain ⟨H, V, C, rfl, rfl, rfl, hH, hV, hC, hb, k0, hm, hp⟩ := cuk_zeroA k
    obtain ⟨g, o, rfl⟩ := cuk_some hH.1 hV.1 hC.1 hm rd
    rw [if_pos k, Int.toNat_natCast, Int.toNat_natCast, Int.toNat_natCast] at hS
    cases hS
    refine (rflat_ok H V C g o m cap N _ w hH hV hC rfl hb k hm hp rd).mono ?_
    rintro e w' ⟨G, rfl, _, row, hb'⟩
    exact ⟨_, _, by rw [k], Wr.row row (flat_lt hp), hb'⟩
  · rw [if_neg k] at hS
    cases hS
    refine (rflat_bad h v c ao m cap N w rd k).mono ?_
    rintro e w' ⟨rfl, hb⟩
    exact ⟨_, _, rfl, wr_nilK _ _, hb⟩
theorem fS_le {h v c : Int} {m N : Nat} {n : Int} {k P : Nat} (hS : fS h v c m N = (n, k, P)) : k ≤ 16777216 := by
  unfold fS at hS
  by_cases k : cuk h v c m N = 0
  · obtain ⟨H, V, C, rfl, rfl, rfl, _, _, _, hb, _⟩ := cuk_zeroA k
    rw [if_pos k, Int.toNat_natCast, Int.toNat_natCast, Int.toNat_natCast] at hS
    cases hS
    unfold nw; omega
  · rw [if_neg k] at hS; cases hS; omega
/-- What At answers. -/
def aS (h v c y x : Int) (m N : Nat) : Int × Nat × Nat := if atE h v c y x m N = 0 then (c, nw c.toNat, pl N (nw c.toNat) (y.toNat * v.toNat + x.toNat)) else (0, 0, 0)
theorem atE_zero {h v c y x : Int} {m N : Nat} (k : atE h v c y x m N = 0) : cuk h v c m N = 0 ∧ (0 ≤ y ∧ y < h) ∧ (0 ≤ x ∧ x < v) := by
  unfold atE at k
  by_cases k0 : cuk h v c m N = 0
  · rw [if_pos k0] at k
    obtain ⟨H, V, C, rfl, rfl, rfl, _, _, _, _, k1, _⟩ := cuk_zeroA k0
    unfold Sg.ixE at k
    rw [if_pos k1] at k
    by_cases k2 : Sg.Inn H V C y x 0
    · exact ⟨k0, k2.1, k2.2.1⟩
    · rw [if_neg k2] at k; omega
  · rw [if_neg k0] at k; exact absurd k k0
theorem at_all (h v c y x : Int) (ao : Option Addr) (m cap N : Nat) (w : World) (hmc : m ≤ cap) (hcap : cap ≤ 9223372036854775807) (rd : Wr w ao m N) (E n : Int) (k' P : Nat) (hE : atE h v c y x m N = E) (hS : aS h v c y x m N = (n, k', P)) :
    Calls Try.prog 20 #[cuv h v c ao m cap, .int .i64 y, .int .i64 x] w fun e w' => ∃ bo K, e = .returned (.tuple #[rv n bo k' K, .int .i64 E]) ∧ Wr w' bo k' P ∧ (∀ g o, bo = some ⟨g, o, none⟩ → w.heap.size ≤ g) ∧ Below w.heap.size w w' := by
  subst hE
  unfold aS at hS
  by_cases k : atE h v c y x m N = 0
  · obtain ⟨k0, hy, hx⟩ := atE_zero k
    obtain ⟨H, V, C, rfl, rfl, rfl, hH, hV, hC, hb, k1, hm, hp⟩ := cuk_zeroA k0
    obtain ⟨g, o, rfl⟩ := cuk_some hH.1 hV.1 hC.1 hm rd
    obtain ⟨y, rfl⟩ := Int.eq_ofNat_of_zero_le hy.1
    obtain ⟨x, rfl⟩ := Int.eq_ofNat_of_zero_le hx.1
    rw [if_pos k, Int.toNat_natCast, Int.toNat_natCast, Int.toNat_natCast, Int.toNat_natCast] at hS
    cases hS
    refine (at_ok H V C g o m cap N y x w hH hV hC k1 k0 hm hmc hcap (by omega) (by omega) rd _ rfl).mono ?_
    rintro e w' ⟨G, K, rfl, hG, _, _, _, wr, hb'⟩
    exact ⟨_, _, by rw [k], wr, fun g o e => (by cases e; exact hG), hb'⟩
  · rw [if_neg k] at hS
    cases hS
    refine (at_bad h v c y x ao m cap N w hmc hcap rd k).mono ?_
    rintro e w' ⟨rfl, hb⟩
    exact ⟨_, _, rfl, wr_nilK _ _, fun g o e => (by cases e), hb⟩
theorem rat_all (h v c y x : Int) (ao : Option Addr) (m cap N : Nat) (w : World) (rd : Wr w ao m N) (E n : Int) (k' P : Nat) (hE : atE h v c y x m N = E) (hS : aS h v c y x m N = (n, k', P)) :
    Calls Try.prog 25 #[cuv h v c ao m cap, .int .i64 y, .int .i64 x] w fun e w' => ∃ bo K, e = .returned (.tuple #[rv n bo k' K, .int .i64 E]) ∧ Wr w' bo k' P ∧ (∀ g o, bo = some ⟨g, o, none⟩ → w.heap.size ≤ g) ∧ Below w.heap.size w w' := by
  subst hE
  unfold aS at hS
  by_cases k : atE h v c y x m N = 0
  · obtain ⟨k0, hy, hx⟩ := atE_zero k
    obtain ⟨H, V, C, rfl, rfl, rfl, hH, hV, hC, hb, k1, hm, hp⟩ := cuk_zeroA k0
    obtain ⟨g, o, rfl⟩ := cuk_some hH.1 hV.1 hC.1 hm rd
    obtain ⟨y, rfl⟩ := Int.eq_ofNat_of_zero_le hy.1
    obtain ⟨x, rfl⟩ := Int.eq_ofNat_of_zero_le hx.1
    rw [if_pos k, Int.toNat_natCast, Int.toNat_natCast, Int.toNat_natCast, Int.toNat_natCast] at hS
    cases hS
    refine (rat_ok H V C g o m cap N _ y x w hH hV hC rfl hb k0 hm hp (by omega) (by omega) rd).mono ?_
    rintro e w' ⟨G, rfl, hG, row, hb'⟩
    exact ⟨_, _, by rw [k], Wr.row row (pl_lt N (nw C) _), fun g o e => (by cases e; exact hG), hb'⟩
  · rw [if_neg k] at hS
    cases hS
    by_cases k0 : cuk h v c m N = 0
    · obtain ⟨H, V, C, rfl, rfl, rfl, hH, hV, hC, hb, k1, hm, hp⟩ := cuk_zeroA k0
      have k2 : ¬ Sg.Inn H V C y x 0 := by
        intro k2
        apply k
        unfold atE Sg.ixE
        rw [if_pos k0, if_pos k1, if_pos k2]
      have e1 : atE H V C y x m N = 1 := by
        unfold atE Sg.ixE
        rw [if_pos k0, if_pos k1, if_neg k2]
      rw [e1]
      refine (rat_arg H V C y x ao m cap N w rd k0 ?_).mono ?_
      · unfold Sg.Inn at k2; omega
      · rintro e w' ⟨rfl, hb⟩
        exact ⟨_, _, rfl, wr_nilK _ _, fun g o e => (by cases e), hb⟩
    · have e1 : atE h v c y x m N = cuk h v c m N := by unfold atE; rw [if_neg k0]
      rw [e1]
      refine (rat_chk h v c y x ao m cap N w rd k0).mono ?_
      rintro e w' ⟨rfl, hb⟩
      exact ⟨_, _, rfl, wr_nilK _ _, fun g o e => (by cases e), hb⟩
theorem aS_le {h v c y x : Int} {m N : Nat} {n : Int} {k P : Nat} (hS : aS h v c y x m N = (n, k, P)) : k ≤ 16777216 := by
  unfold aS at hS
  by_cases k : atE h v c y x m N = 0
  · obtain ⟨H, V, C, rfl, rfl, rfl, _, _, hC, _⟩ := cuk_zeroA (atE_zero k).1
    rw [if_pos k, Int.toNat_natCast] at hS
    cases hS
    unfold nw; omega
  · rw [if_neg k] at hS; cases hS; omega
end Go.Proofs.Ytfboegdibohciaa
