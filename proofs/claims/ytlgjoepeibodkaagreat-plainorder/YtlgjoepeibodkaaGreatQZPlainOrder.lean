import Derived.Test.YtlgjoepeibodkaaGreatQDPlainTurned
import Derived.Deep.MidRow
import Derived.Test.YtlgjoepeibodkaaGreatQCPlainTurned
import Derived.Laws.OwnMore
import Derived.Deep.RegionHeld3
import Derived.Deep.CutBlock
import Derived.Deep.DeepCutAuto
import Derived.Deep.RegionLaw
import Derived.Test.YtlgjoepeibodkaaGreatQAPlainTurned
/- PLAIN'S STATEMENTS: a network with another layer in the place of one. -/
namespace Go.Proofs.YtlgjoepeibodkaaGreat.Nn
open Go.RowKit

/-- A list with others laid into it from a place on. -/
def putW : List Value → Nat → List Value → List Value
  | xs, _, [] => xs
  | xs, o, v :: r => putW (xs.set o v) (o + 1) r
theorem putW_get : ∀ (vs : List Value) (xs : List Value) (o k : Nat), o + vs.length ≤ xs.length → (putW xs o vs)[k]? = if o ≤ k ∧ k < o + vs.length then vs[k - o]? else xs[k]?
  | [], xs, o, k, _ => by rw [putW, if_neg (by simp only [List.length_nil]; omega)]
  | v :: r, xs, o, k, h => by
    simp only [List.length_cons] at h ⊢
    rw [putW, putW_get r (xs.set o v) (o + 1) k (by rw [List.length_set]; omega)]
    by_cases hk : k = o
    · subst hk
      rw [if_neg (by omega), if_pos (by omega), Nat.sub_self, List.getElem?_set_self (by omega)]
      rfl
    · by_cases h1 : o + 1 ≤ k ∧ k < o + 1 + r.length
      · rw [if_pos h1, if_pos (by omega), show k - o = (k - (o + 1)) + 1 by omega, List.getElem?_cons_succ]
      · rw [if_neg h1, if_neg (by omega), List.getElem?_set_ne (by omega)]
theorem own_setW {base e size g n cap : Nat} : ∀ (vs : List Value) (o : Nat) (W : World) (xs : List Value), W.ownsRow base e size (.slice (some ⟨g, 0, none⟩) n cap) n xs → (W.setCells g o vs).ownsRow base e size (.slice (some ⟨g, 0, none⟩) n cap) n (putW xs o vs) ∧ W.grownBy (W.setCells g o vs) (some g)
  | [], _, W, _, h => ⟨h, gr_refl W _⟩
  | v :: r, o, W, xs, h => by
    obtain ⟨h1, h2⟩ := h.stored o v
    obtain ⟨h3, h4⟩ := own_setW r (o + 1) _ _ h1
    exact ⟨h3, gr_step h2 h4 (.inl rfl)⟩
theorem ls_putW {lf : Nat → Ly} {M i : Nat} (hi : i < M) (L : Ly) : putW (lyLs lf M) (i * 15) (lyC L) = lyLs (sn lf i L) M := by
  apply List.ext_getElem?
  intro k
  have hl : (lyLs lf M).length = M * 15 := rl_len (s := 15) (fun _ => rfl) M
  have hl2 : (lyLs (sn lf i L) M).length = M * 15 := rl_len (s := 15) (fun _ => rfl) M
  have hc : (lyC L).length = 15 := rfl
  rw [putW_get _ _ _ _ (by rw [hl, hc]; omega), hc]
  by_cases hk : k < M * 15
  · have e : k = (k / 15) * 15 + k % 15 := by omega
    have h1 : (lyLs (sn lf i L) M)[k]? = (lyC (sn lf i L (k / 15)))[k % 15]? := by
      conv => lhs; rw [e]
      exact rl_get (s := 15) (fun _ => rfl) M (by omega) (by omega)
    have h2 : (lyLs lf M)[k]? = (lyC (lf (k / 15)))[k % 15]? := by
      conv => lhs; rw [e]
      exact rl_get (s := 15) (fun _ => rfl) M (by omega) (by omega)
    rw [h1, h2]
    by_cases hj : k / 15 = i
    · rw [if_pos (by omega), show k - i * 15 = k % 15 by omega]
      unfold sn
      rw [if_pos hj]
    · rw [if_neg (by omega)]
      unfold sn
      rw [if_neg hj]
  · rw [if_neg (by omega), List.getElem?_eq_none (by omega), List.getElem?_eq_none (by omega)]
theorem ls_cellW {W : World} {base G uc M i c : Nat} {lf : Nat → Ly} (h : W.ownsRow base 38 15 (.slice (some ⟨G, 0, none⟩) M uc) M (lyLs lf M)) (hi : i < M) (hc : c < 15) : W.cell? ⟨G, i * 15 + c, none⟩ = (lyC (lf i))[c]? := by
  rw [h.cellAt _ (by omega)]
  exact rl_get (s := 15) (fun _ => rfl) M hi hc
theorem ls_thereW {W : World} {base G uc M i : Nat} {lf : Nat → Ly} (h : W.ownsRow base 38 15 (.slice (some ⟨G, 0, none⟩) M uc) M (lyLs lf M)) (hi : i < M) : W.there G (i * 15) 15 := fun c hc => ⟨by rw [ls_cellW h hi hc, List.getElem?_eq_getElem (by show c < (lyC (lf i)).length; exact hc)]; rfl, h.frozenAt _⟩
theorem info_lyW : (Tryz.prog.info? 38).map (·.size) = some 15 := by kernel_rfl
theorem lyC_oneW (L : Ly) : (lyC L).toArray.all (·.oneCell') = true := by simp [lyC, Value.oneCell']
theorem netF_allW {W : World} {b : Nat} {nm : ByteArray} {H V C : Int} {u : Value} {F : Nat → Value} (h : W.rowIs b 26 5 F) : (((((W.setCell ⟨b, 0, none⟩ (.string nm)).setCell ⟨b, 1, none⟩ (.int .i64 H)).setCell ⟨b, 2, none⟩ (.int .i64 V)).setCell ⟨b, 3, none⟩ (.int .i64 C)).setCell ⟨b, 4, none⟩ u).rowIs b 26 5 (netF nm H V C u) := by
  refine (((((h.set 0 (.string nm)).set 1 (.int .i64 H)).set 2 (.int .i64 V)).set 3 (.int .i64 C)).set 4 u).congr fun q hq => ?_
  rcases (show q = 0 ∨ q = 1 ∨ q = 2 ∨ q = 3 ∨ q = 4 by omega) with rfl | rfl | rfl | rfl | rfl <;> rfl
/-- The network with another layer in a place. -/
abbrev wiN (N : Nt) (i : Nat) (L : Ly) (ua : Option Addr) (uc : Nat) : Nt := ⟨N.nm, N.h, N.v, N.c, ua, N.ml, uc, sn N.lf i L⟩
/-- Layers in a row of their own, their lists wherever they lie. -/
theorem wi_net {W : World} {base : Nat} {N : Nt} {i : Nat} {L : Ly} {ua : Option Addr} {uc : Nat} (hi : i < N.ml) (hm : N.ml ≤ 64) (hn : N.nm.size ≤ 9223372036854775807) (own : W.ownsRow base 38 15 (.slice ua N.ml uc) N.ml (lyLs (sn N.lf i L) N.ml)) (hl : ∀ j, j < N.ml → Lst W (sn N.lf i L j)) : NtW W (wiN N i L ua uc) := by
  obtain ⟨g, e, -, -, -, hc⟩ := own_cellsS own (by omega)
  refine ⟨fun j hj => ⟨g, 0, e, ?_, hl j hj⟩, by show N.ml ≤ _; omega, hn⟩
  have hj : j < N.ml := hj
  have key : ∀ c, c < 15 → W.cell? ⟨g, 0 + j * 15 + c, none⟩ = (lyC (sn N.lf i L j))[c]? := fun c hc' => by
    rw [Nat.zero_add, hc _ (by omega)]
    exact rl_get (s := 15) (fun _ => rfl) N.ml hj hc'
  exact ⟨key 0 (by decide), key 1 (by decide), key 2 (by decide), key 3 (by decide), key 4 (by decide), key 5 (by decide), key 6 (by decide), key 7 (by decide), key 8 (by decide), key 9 (by decide), key 10 (by decide), key 11 (by decide), key 12 (by decide), key 13 (by decide), key 14 (by decide)⟩
set_option maxHeartbeats 6400000 in
set_option maxRecDepth 100000 in
theorem with_any (N : Nt) (i : Nat) (hi : i < N.ml) (hm : N.ml ≤ 64) (L : Ly) (w : World) (hN : NtW w N) (hL : Lst w L) :
    Calls Tryz.prog 9 #[ntv N, .int .i64 i, lyv L] w fun e w' => ∃ ua uc, e = .returned (ntv (wiN N i L ua uc)) ∧ NtW w' (wiN N i L ua uc) ∧ Below w.heap.size w w' := by
  have HN := hid1 hN
  have HLL := hid1 hL
  clear hN hL
  obtain ⟨b, hb0⟩ : ∃ b, w.heap.size = b := ⟨_, rfl⟩
  have HB0 := hid1 hb0
  have HAP := hid1 (fun (ops : Array Oper) (rest : List Oper) (o : Oper) (a : Act) (Q : Exit → Act → World → Prop) (W : World) (hW : Below w.heap.size w W) (hgd : o.guard = none) (s x : Operand) (ho : o.op = .call { callee := .builtin .append, args := #[s, x], argTypes := #[24, 24] }) (hs : a.eval s = .slice none 0 0) (hx : a.eval x = .slice N.al N.ml N.cl) => app_clL (ops := ops) (rest := rest) (Q := Q) (w := W) hgd s x ho N hs hx (HN.out.keep hW) ⟨by omega, hm⟩)
  have HI := hid1 (And.intro hi hm)
  have ii0 : (0 : Int) ≤ (i : Int) := by omega
  have ii : (i : Int) < (N.ml : Int) := by omega
  have hMb : N.ml ≤ 1000000000000 := by omega
  clear hi hm
  go_enter Tryz.func9, Tryz.ntmps9
  go_upto_region 1 with fail
  refine gen_world (fun X => Below w.heap.size w X ∧ X.rowIs b 26 5 (netF N.nm N.h N.v N.c (.slice N.al N.ml N.cl)) ∧ X.rowIs (b + 1) 38 15 (lyf L) ∧ X.rowIs (b + 2) 26 5 (netF ⟨#[]⟩ 0 0 0 (.slice none 0 0)) ∧ b + 3 ≤ X.heap.size) ?gw ?_
  case gw =>
    subst hb0
    refine ⟨by repeat (first | (with_reducible exact Below.refl _ _) | (with_reducible refine bl_alloc ?_ _) | (with_reducible refine Below.drew ?_)), ((net_newF w N.nm N.h N.v N.c (.slice N.al N.ml N.cl) _).alloc _).alloc _, ?_, ?_, by simp⟩
    · have := (lyf_new (w.alloc (.cells #[.string N.nm, .int .i64 N.h, .int .i64 N.v, .int .i64 N.c, .slice N.al N.ml N.cl] 26)) L 38).alloc (.cells #[.string ⟨#[]⟩, .int .i64 0, .int .i64 0, .int .i64 0, .slice none 0 0] 26)
      simpa using this
    · have := net_newF ((w.alloc (.cells #[.string N.nm, .int .i64 N.h, .int .i64 N.v, .int .i64 N.c, .slice N.al N.ml N.cl] 26)).alloc (lyo L)) ⟨#[]⟩ 0 0 0 (.slice none 0 0) 26
      simpa using this
  rintro X ⟨BX, R0, R1, R2, zX⟩
  have HR0 := hid1 R0
  have HR1 := hid1 R1
  have HR2 := hid1 R2
  have n4 : X.cell? ⟨b, 4, none⟩ = some (.slice N.al N.ml N.cl) := R0.cell (i := 4) (by decide)
  have z4 := R0.frozen 4
  have HBX := hid1 BX
  clear R0 R1 R2 BX
  have HSZ := hid1 zX
  clear zX
  go_upto_region 2 with (at_builtin; refine HAP.out _ _ _ _ _ X HBX.out rfl _ _ rfl (by go_simp) (by go_simp) ?_; intro v1 y1 own1 bb1; obtain ⟨a1, d1, rfl⟩ := own_isP own1; have HO1 := hid1 own1; have HB1 := hid1 bb1; have R0 := World.rowIs.of_block HR0.out (bb1.block _ HR0.out.lt); have m4 : y1.cell? ⟨b, 4, none⟩ = some (.slice N.al N.ml N.cl) := R0.cell (i := 4) (by decide); have f4 := R0.frozen 4; clear own1 bb1 R0)
  refine gen_world (fun Y => Y.rowIs b 26 5 (netF N.nm N.h N.v N.c (.slice a1 N.ml d1)) ∧ Y.rowIs (b + 1) 38 15 (lyf L) ∧ Y.rowIs (b + 2) 26 5 (netF ⟨#[]⟩ 0 0 0 (.slice none 0 0)) ∧ Y.ownsRow (b + 3) 38 15 (.slice a1 N.ml d1) N.ml (lyLs N.lf N.ml) ∧ b + 3 ≤ Y.heap.size ∧ Below w.heap.size w Y) ?gw2 ?_
  case gw2 =>
    have hb := HB1.out
    have hs := HSZ.out
    refine ⟨?_, (World.rowIs.of_block HR1.out (hb.block _ HR1.out.lt)).setOther (by show b + 1 ≠ b; omega) _, (World.rowIs.of_block HR2.out (hb.block _ HR2.out.lt)).setOther (by show b + 2 ≠ b; omega) _, own_setD (HO1.out.mono hs) (by omega), by have := hb.size; simp; omega, bl_set (bl_step HBX.out hb) (by omega) _⟩
    refine ((World.rowIs.of_block HR0.out (hb.block _ HR0.out.lt)).set 4 _).congr fun i hi => ?_
    rcases (show i = 0 ∨ i = 1 ∨ i = 2 ∨ i = 3 ∨ i = 4 by omega) with rfl | rfl | rfl | rfl | rfl <;> rfl
  clear HO1 HB1 m4 f4 n4 z4 HR0 HR1 HR2 HBX HSZ
  rintro Y ⟨R0, R1, R2, OW, zY, BY⟩
  obtain ⟨G, rfl, -, -, -, -⟩ := own_cellsS OW (by have := HI.out; omega)
  have HST : Hid ((Y.setCells G (i * 15) (lyC L)).ownsRow (b + 3) 38 15 (.slice (some ⟨G, 0, none⟩) N.ml d1) N.ml (lyLs (sn N.lf i L) N.ml) ∧ Y.grownBy (Y.setCells G (i * 15) (lyC L)) (some G) ∧ b + 3 ≤ G) := hid1 (by
    obtain ⟨o1, o2⟩ := own_setW (lyC L) (i * 15) Y _ OW
    rw [ls_putW HI.out.1] at o1
    exact ⟨o1, o2, (OW.lt G rfl).1⟩)
  have HTH : Hid (Y.there G (i * 15) 15) := hid1 (ls_thereW OW HI.out.1)
  have n4 : Y.cell? ⟨b, 4, none⟩ = some (.slice (some ⟨G, 0, none⟩) N.ml d1) := R0.cell (i := 4) (by decide)
  obtain ⟨l0, l1, l2, l3, l4, l5, l6, l7, l8, l9, l10, l11, l12, l13, l14⟩ := lyf_cells R1
  have HR0 := hid1 R0
  have HR2 := hid1 R2
  have HBY := hid1 BY
  have HZY := hid1 zY
  clear R0 R1 R2 OW zY BY
  go_upto_region 3 with (refine wpList_store_mid rfl 38 _ _ rfl G (i * 15) (lyC L).toArray (by go_simp) (by go_simp; rfl) HTH.out info_lyW (lyC_oneW L) ?_; have hst := HST.out; clear HTH l0 l1 l2 l3 l4 l5 l6 l7 l8 l9 l10 l11 l12 l13 l14 n4)
  refine gen_world (fun Z => Z.rowIs b 26 5 (netF N.nm N.h N.v N.c (.slice (some ⟨G, 0, none⟩) N.ml d1)) ∧ Z.rowIs (b + 2) 26 5 (netF ⟨#[]⟩ 0 0 0 (.slice none 0 0)) ∧ Z.ownsRow (b + 3) 38 15 (.slice (some ⟨G, 0, none⟩) N.ml d1) N.ml (lyLs (sn N.lf i L) N.ml) ∧ Below w.heap.size w Z) ?gw3 ?_
  case gw3 =>
    obtain ⟨o1, o2, o3⟩ := hst
    have hl0 := HR0.out.lt
    have hl2 := HR2.out.lt
    exact ⟨World.rowIs.of_block HR0.out (o2.block b hl0 (by simp; omega)), World.rowIs.of_block HR2.out (o2.block (b + 2) hl2 (by simp; omega)), o1, gr_bel o2 HBY.out (fun q hq => by cases hq; omega)⟩
  clear hst HST HR0 HR2 HBY HZY
  rintro Z ⟨R0, R2, OW, BZ⟩
  have HOW := hid1 OW
  have HBZ := hid1 BZ
  have HR2 := hid1 R2
  have n0 : Z.cell? ⟨b, 0, none⟩ = some (.string N.nm) := R0.cell (i := 0) (by decide)
  have n1 : Z.cell? ⟨b, 1, none⟩ = some (.int .i64 N.h) := R0.cell (i := 1) (by decide)
  have n2 : Z.cell? ⟨b, 2, none⟩ = some (.int .i64 N.v) := R0.cell (i := 2) (by decide)
  have n3 : Z.cell? ⟨b, 3, none⟩ = some (.int .i64 N.c) := R0.cell (i := 3) (by decide)
  have n4 : Z.cell? ⟨b, 4, none⟩ = some (.slice (some ⟨G, 0, none⟩) N.ml d1) := R0.cell (i := 4) (by decide)
  have r0 : Z.cell? ⟨b + 1 + 1, 0, none⟩ = some (.string ⟨#[]⟩) := R2.cell (i := 0) (by decide)
  have r1 : Z.cell? ⟨b + 1 + 1, 1, none⟩ = some (.int .i64 0) := R2.cell (i := 1) (by decide)
  have r2 : Z.cell? ⟨b + 1 + 1, 2, none⟩ = some (.int .i64 0) := R2.cell (i := 2) (by decide)
  have r3 : Z.cell? ⟨b + 1 + 1, 3, none⟩ = some (.int .i64 0) := R2.cell (i := 3) (by decide)
  have r4 : Z.cell? ⟨b + 1 + 1, 4, none⟩ = some (.slice none 0 0) := R2.cell (i := 4) (by decide)
  have f0 : Z.frozen? ⟨b + 1 + 1, 0, none⟩ = false := R2.frozen 0
  have f1 : Z.frozen? ⟨b + 1 + 1, 1, none⟩ = false := R2.frozen 1
  have f2 : Z.frozen? ⟨b + 1 + 1, 2, none⟩ = false := R2.frozen 2
  have f3 : Z.frozen? ⟨b + 1 + 1, 3, none⟩ = false := R2.frozen 3
  have f4 : Z.frozen? ⟨b + 1 + 1, 4, none⟩ = false := R2.frozen 4
  clear R0 R2 OW BZ
  go_wp2_with fail
  refine bodyPost_ret (results_cell_row Tryz.results9 _ _ (b + 1 + 1) 26 _ (0, 0) _ (by go_simp) (row5 (netF_allW HR2.out)) Tryz.underlying26 rfl (by kernel_rfl)) rfl ?_
  have hb1 : w.heap.size ≤ b + 1 + 1 := by have := HB0.out; omega
  have hbz := bl_set (bl_set (bl_set (bl_set (bl_set HBZ.out hb1 (.string N.nm) (o := 0)) hb1 (.int .i64 N.h) (o := 1)) hb1 (.int .i64 N.v) (o := 2)) hb1 (.int .i64 N.c) (o := 3)) hb1 (.slice (some ⟨G, 0, none⟩) N.ml d1) (o := 4)
  refine ⟨some ⟨G, 0, none⟩, d1, rfl, wi_net (base := b + 3) HI.out.1 HI.out.2 HN.out.2.2 (own_setD (own_setD (own_setD (own_setD (own_setD HOW.out (by omega)) (by omega)) (by omega)) (by omega)) (by omega)) (fun j hj => ?_), hbz⟩
  unfold sn
  by_cases hji : j = i
  · rw [if_pos hji]
    exact HLL.out.keep hbz
  · rw [if_neg hji]
    obtain ⟨_, _, _, _, h⟩ := HN.out.1 j hj
    exact h.keep hbz
end Go.Proofs.YtlgjoepeibodkaaGreat.Nn
/- PLAINBORDER: both traces. -/
namespace Go.Proofs.YtlgjoepeibodkaaGreat.Nn
open Go.RowKit

theorem sz_el {N : Nt} (hz : chE N = 0) {i : Nat} (hi : i ≤ N.ml) : ((szN N i : Nat) : Int) = (sp N i).h * (sp N i).v * (sp N i).c := by
  obtain ⟨⟨⟨a1, a2⟩, ⟨a3, a4⟩, ⟨a5, a6⟩⟩, -⟩ := chk_prod (chk_sp hz i hi)
  unfold szN cN
  obtain ⟨H, eH⟩ := Int.eq_ofNat_of_zero_le (show 0 ≤ (sp N i).h by omega)
  obtain ⟨V, eV⟩ := Int.eq_ofNat_of_zero_le (show 0 ≤ (sp N i).v by omega)
  obtain ⟨C, eC⟩ := Int.eq_ofNat_of_zero_le (show 0 ≤ (sp N i).c by omega)
  rw [eH, eV, eC]
  push_cast
  rfl
abbrev StN (W : World) (N : Nt) (f : Nat → Int) (g : Nat) : Prop := StR W (some ⟨g, 0, none⟩) N.ml (fun j => (sp N (j + 1)).h) (fun j => (sp N (j + 1)).v) (fun j => (sp N (j + 1)).c) (fun j => szN N (j + 1)) (fun j => valN N (fun i => s8 (f i)) (j + 1))
theorem bo_trace {N : Nt} (hz : chE N = 0) (hcw : ∀ j, j < N.ml → (N.lf j).mw ≤ (N.lf j).cw) (ht : toN N ≤ 4194304) {m : Nat} (hsz : (m : Int) = N.h * N.v * N.c) (ao : Option Addr) (cap : Nat) (f : Nat → Int) (W : World) (hN : NtW W N) (hx : RB W ao m f) :
    Calls Tryz.prog 8 #[ntv N, .slice ao m cap] W fun e w' => ∃ g c, e = .returned (.tuple #[.slice (some ⟨g, 0, none⟩) N.ml c, .int .i64 0]) ∧ StN w' N f g ∧ Below W.heap.size W w' := by
  have hm : szN N 0 = m := by
    have := sz_el hz (Nat.zero_le N.ml)
    have h2 : ((szN N 0 : Nat) : Int) = N.h * N.v * N.c := this
    rw [← hsz] at h2
    exact Int.ofNat.inj h2
  subst hm
  refine (ptrace_all N hz hcw ht ao cap f (fun j hj => ?_) W hN hx).mono fun e w' h => ?_
  · obtain ⟨_, _, _, _, h1, h2⟩ := hx j hj
    exact ⟨h1, by omega⟩
  · obtain ⟨u, gl, cl, rfl, hT, hb⟩ := h
    obtain ⟨g, c, rfl, -, hS⟩ := hT.str (wh_parts (fl_all hz).1).2.2.1 (fun j hj => ⟨sz_one hz hcw hj, by
      have h1 := sz_el hz (show j + 1 ≤ N.ml by omega)
      have h2 := (el_sp hz (show j + 1 ≤ N.ml by omega)).2.2
      omega⟩)
    exact ⟨g, c, rfl, hS, hb⟩
theorem to_fits {N : Nt} (hz : chE N = 0) (hwo : woV N N.ml ≤ 4194304) : toN N ≤ 4194304 := by
  have := to_wo hz N.ml (Nat.le_refl _)
  unfold toN
  omega
theorem own_rb {W : World} {base k lc : Nat} {la : Option Addr} {f : Nat → Int} (h : W.ownsRow base 5 1 (.slice la k lc) k (u8L ((List.range k).map f))) (hf : ∀ j, 0 ≤ f j ∧ f j < 256) : RB W la k f := fun j hj => by
  obtain ⟨g, e, -, -, -, hc⟩ := own_cellsS h (by omega)
  refine ⟨g, 0, e, ?_, hf j⟩
  rw [Nat.zero_add, hc j (by omega)]
  simp [u8L, hj]
/-- The trace of the network whose border is laid out. -/
theorem bo_trace2 {N : Nt} {L : Ly} (hz : chE N = 0) (hL : N.lf 0 = L) (hk : L.kd = 1) (hcw : ∀ j, j < N.ml → (N.lf j).mw ≤ (N.lf j).cw) (hwo : woV N N.ml ≤ 4194304) {H1 V1 : Int} (hE : H1 = N.h + L.t + L.b ∧ V1 = N.v + L.l + L.q) {H V H' V' C m k : Nat} (eq : N.h = H ∧ N.v = V ∧ N.c = C ∧ H1 = H' ∧ V1 = V') (hm : m = H * V * C) (hb : (H' ≤ 4096 ∧ V' ≤ 4096) ∧ H' * V' * C ≤ 100000) (hkk : k = H' * V' * C) {base lc : Nat} {la ao ua : Option Addr} {uc : Nat} {f : Nat → Int} {W : World}
    (hN : NtW W (wiN ⟨N.nm, H1, V1, N.c, N.al, N.ml, N.cl, N.lf⟩ 0 (noB L) ua uc)) (hx : RB W ao m f) (own : W.ownsRow base 5 1 (.slice la k lc) k (u8L (byL f L.t L.l L.bd H V V' C k))) :
    Calls Tryz.prog 8 #[ntv (wiN ⟨N.nm, H1, V1, N.c, N.al, N.ml, N.cl, N.lf⟩ 0 (noB L) ua uc), .slice la k lc] W fun e w' => ∃ g c, e = .returned (.tuple #[.slice (some ⟨g, 0, none⟩) N.ml c, .int .i64 0]) ∧ StN w' N f g ∧ Below W.heap.size W w' := by
  subst hL
  obtain ⟨-, ⟨⟨a1, a2⟩, ⟨a3, a4⟩, a5, a6⟩, ⟨⟨b1, b2⟩, ⟨b3, b4⟩, ⟨b5, b6⟩, b7, b8⟩, d1, d2⟩ := bo_first hz hk
  obtain ⟨e1, e2, e3, e4, e5⟩ := eq
  have hB : Bo N (wiN ⟨N.nm, H1, V1, N.c, N.al, N.ml, N.cl, N.lf⟩ 0 (noB (N.lf 0)) ua uc) := bo_made hz hk hE.1 hE.2 (by omega) (by omega) (by
    rw [e4, e5, e3, ← Int.natCast_mul, ← Int.natCast_mul]
    have := hb.2
    omega) sn_eq (fun j hj => if_neg (by omega))
  have hzM := bo_ok hz hB
  have hfb : ∀ q, q < H * V * C → 0 ≤ f q ∧ f q < 256 := fun q hq => by
    obtain ⟨_, _, _, _, h⟩ := hx q (by omega)
    exact h
  refine (bo_trace (m := k) hzM (fun j hj => ?_) (by rw [bo_to hz hB]; exact to_fits hz hwo) ?_ la lc (byB f (N.lf 0).t (N.lf 0).l (N.lf 0).bd H V V' C) W hN (own_rb own (fun j => by_bd (by omega) hfb j))).mono fun e w' h => ?_
  · show (sn N.lf 0 (noB (N.lf 0)) j).mw ≤ (sn N.lf 0 (noB (N.lf 0)) j).cw
    unfold sn
    by_cases h0 : j = 0
    · subst h0
      rw [if_pos rfl]
      exact hcw 0 hj
    · rw [if_neg h0]
      exact hcw j hj
  · show (k : Int) = H1 * V1 * N.c
    rw [e4, e5, e3, ← Int.natCast_mul, ← Int.natCast_mul, hkk]
  · obtain ⟨g, c, rfl, hS, hb'⟩ := h
    refine ⟨g, c, rfl, ?_, hb'⟩
    refine StR.congr hS fun j hj => ?_
    refine bo_steps hz hB (x := fun i => s8 (f i)) (y := fun i => s8 (byB f (N.lf 0).t (N.lf 0).l (N.lf 0).bd H V V' C i)) ?_ j hj
    rw [show N.h.toNat = H by omega, show N.v.toNat = V by omega, show N.c.toNat = C by omega, show Int.toNat (Nt.h (wiN ⟨N.nm, H1, V1, N.c, N.al, N.ml, N.cl, N.lf⟩ 0 (noB (N.lf 0)) ua uc)) = H' by show H1.toNat = H'; omega, show Int.toNat (Nt.v (wiN ⟨N.nm, H1, V1, N.c, N.al, N.ml, N.cl, N.lf⟩ 0 (noB (N.lf 0)) ua uc)) = V' by show V1.toNat = V'; omega]
    exact by_laid d1 d2
end Go.Proofs.YtlgjoepeibodkaaGreat.Nn
/- PLAINTURNED: outputs turned, the mathematics. -/
namespace Go.Proofs.YtlgjoepeibodkaaGreat.Nn
open Go.RowKit

def tuW (ws : Nat → Int) (F : Nat) (wh : Nat → Bool) (j : Nat) : Int := if wh (j / F) = true then -ws j else ws j
def tuN (ns : Nat → Nat → Int) (wh : Nat → Bool) (k c : Nat) : Int := if wh k = true ∧ (c = 0 ∨ c = 4) then -ns k c else ns k c
/-- A layer with some outputs turned, its weights and norms elsewhere. -/
abbrev tuL (L : Ly) (F : Nat) (wh : Nat → Bool) (aw : Option Addr) (cw : Nat) (an : Option Addr) (cn : Nat) : Ly := ⟨L.kd, L.wt, L.k, L.r, L.s, L.sy, L.sx, L.t, L.l, L.b, L.q, L.bd, aw, L.mw, cw, an, L.mn, cn, L.ab, L.mb, L.cb, tuW L.ws F wh, tuN L.ns wh, L.bs⟩
theorem sm_neg (f x : Nat → Int) : ∀ n, smV (fun j => -f j) x n = -smV f x n
  | 0 => rfl
  | n + 1 => by
    rw [smV, smV, sm_neg f x n, Int.neg_mul]
    omega
theorem sm_congl {f g x : Nat → Int} : ∀ {n : Nat}, (∀ j, j < n → f j = g j) → smV f x n = smV g x n
  | 0, _ => rfl
  | n + 1, h => by rw [smV, smV, sm_congl (n := n) fun j hj => h j (by omega), h n (by omega)]
theorem no_turn (gn gd bn bd mn md sn sd : Int) : Wd.noE (-gn) gd bn bd (-mn) md sn sd = Wd.noE gn gd bn bd mn md sn sd := by
  unfold Wd.noE
  have e : (Wd.Fr (-gn) gd ∧ Wd.Fr bn bd ∧ Wd.Fr (-mn) md ∧ Wd.Fr sn sd) ↔ (Wd.Fr gn gd ∧ Wd.Fr bn bd ∧ Wd.Fr mn md ∧ Wd.Fr sn sd) := by unfold Wd.Fr; omega
  by_cases h : Wd.Fr gn gd ∧ Wd.Fr bn bd ∧ Wd.Fr mn md ∧ Wd.Fr sn sd
  · rw [if_pos h, if_pos (e.2 h)]
  · rw [if_neg h, if_neg (fun k => h (e.1 k))]
theorem no_turn2 (gn gd bn bd mn md sn sd : Int) : noE (-gn) gd bn bd (-mn) md sn sd = noE gn gd bn bd mn md sn sd := by
  unfold noE
  have e : (Fr (-gn) gd ∧ Fr bn bd ∧ Fr (-mn) md ∧ Fr sn sd) ↔ (Fr gn gd ∧ Fr bn bd ∧ Fr mn md ∧ Fr sn sd) := by unfold Fr; omega
  by_cases h : Fr gn gd ∧ Fr bn bd ∧ Fr mn md ∧ Fr sn sd
  · rw [if_pos h, if_pos (e.2 h)]
  · rw [if_neg h, if_neg (fun k => h (e.1 k))]
theorem pl_turn (gn gd bn bd mn md sn sd x : Int) : Wd.plV (-gn) gd bn bd (-mn) md sn sd (-x) = Wd.plV gn gd bn bd mn md sn sd x := by
  unfold Wd.plV
  rw [no_turn, Wd.nv_turn]
  have e : decide (Wd.Sm (-x)) = decide (Wd.Sm x) := decide_eq_decide.2 (by unfold Wd.Sm; omega)
  rw [e]
theorem nno_turn {L : Ly} {F : Nat} {wh : Nat → Bool} {aw an : Option Addr} {cw cn : Nat} (j : Nat) : nno (tuL L F wh aw cw an cn) j = nno L j := by
  show noE (tuN L.ns wh j 0) (tuN L.ns wh j 1) (tuN L.ns wh j 2) (tuN L.ns wh j 3) (tuN L.ns wh j 4) (tuN L.ns wh j 5) (tuN L.ns wh j 6) (tuN L.ns wh j 7) = nno L j
  unfold nno tuN
  by_cases h : wh j = true
  · simp only [h, true_and]
    exact no_turn2 _ _ _ _ _ _ _ _
  · simp [h]
theorem nm_turn {L : Ly} {F : Nat} {wh : Nat → Bool} {aw an : Option Addr} {cw cn : Nat} (h : nmE L = 0) : nmE (tuL L F wh aw cw an cn) = 0 := by
  unfold nmE at h
  have h := zero_else (by decide) h
  exact nmE_ok h.1 (fun j hj => by rw [nno_turn]; exact h.2 j hj)
theorem ws_turn {L : Ly} {S : Sp} {F : Nat} {wh : Nat → Bool} {aw an : Option Addr} {cw cn : Nat} (h : wsE L S = 0) : wsE (tuL L F wh aw cw an cn) S = 0 := by
  unfold wsE at h
  have h := zero_else (by decide) h
  refine wsE_ok h.1 (fun j hj => ?_)
  have := h.2 j hj
  show okW L.wt (tuW L.ws F wh j)
  unfold okW at this ⊢
  unfold tuW
  by_cases hw : wh (j / F) = true
  · rw [if_pos hw]; omega
  · rw [if_neg hw]; exact this
theorem en_turn {L : Ly} {S : Sp} {F : Nat} {wh : Nat → Bool} {aw an : Option Addr} {cw cn : Nat} (h : enE L S = 0) : enE (tuL L F wh aw cw an cn) S = 0 := by
  unfold enE at h ⊢
  by_cases hl : S.la = true
  · rw [if_pos hl] at h ⊢; exact h
  · rw [if_neg hl] at h ⊢; exact nm_turn h
theorem fa_turn {L : Ly} {S : Sp} {F : Nat} {wh : Nat → Bool} {aw an : Option Addr} {cw cn : Nat} (h : faE L S = 0) : faE (tuL L F wh aw cw an cn) S = 0 := by
  unfold faE at h ⊢
  by_cases h1 : L.kd = 1
  · rw [if_pos h1] at h
    rw [if_pos (show (tuL L F wh aw cw an cn).kd = 1 from h1)]
    have h := frF_z h
    refine frF_ok fun q hq => ?_
    rcases (show q = 0 ∨ q = 1 ∨ q = 2 ∨ q = 3 ∨ q = 4 ∨ q = 5 ∨ q = 6 ∨ q = 7 ∨ q = 8 ∨ q = 9 by omega) with rfl | rfl | rfl | rfl | rfl | rfl | rfl | rfl | rfl | rfl
    · exact h 0 (by decide)
    · exact h 1 (by decide)
    · exact h 2 (by decide)
    · exact h 3 (by decide)
    · exact h 4 (by decide)
    · exact h 5 (by decide)
    · exact h 6 (by decide)
    · exact ws_turn (h 7 (by decide))
    · first | exact nm_turn (h 8 (by decide)) | exact en_turn (h 8 (by decide))
    · exact h 9 (by decide)
  · rw [if_neg h1] at h
    rw [if_neg (show ¬ (tuL L F wh aw cw an cn).kd = 1 from h1)]
    by_cases h2 : L.kd = 2
    · rw [if_pos h2] at h
      rw [if_pos (show (tuL L F wh aw cw an cn).kd = 2 from h2)]
      have h := frF_z h
      refine frF_ok fun q hq => ?_
      rcases (show q = 0 ∨ q = 1 ∨ q = 2 ∨ q = 3 ∨ q = 4 ∨ q = 5 ∨ q = 6 by omega) with rfl | rfl | rfl | rfl | rfl | rfl | rfl
      · exact h 0 (by decide)
      · exact h 1 (by decide)
      · exact h 2 (by decide)
      · exact h 3 (by decide)
      · first | exact h 4 (by decide) | exact ws_turn (h 4 (by decide))
      · first | exact h 5 (by decide) | exact en_turn (h 5 (by decide)) | exact ws_turn (h 5 (by decide))
      · first | exact h 6 (by decide) | exact en_turn (h 6 (by decide))
    · rw [if_neg h2] at h
      rw [if_neg (show ¬ (tuL L F wh aw cw an cn).kd = 2 from h2)]
      by_cases h3 : L.kd = 3
      · rw [if_pos h3] at h
        rw [if_pos (show (tuL L F wh aw cw an cn).kd = 3 from h3)]
        have h := frF_z h
        refine frF_ok fun q hq => ?_
        rcases (show q = 0 ∨ q = 1 ∨ q = 2 ∨ q = 3 ∨ q = 4 ∨ q = 5 by omega) with rfl | rfl | rfl | rfl | rfl | rfl
        · exact h 0 (by decide)
        · exact h 1 (by decide)
        · exact h 2 (by decide)
        · exact h 3 (by decide)
        · exact h 4 (by decide)
        · exact h 5 (by decide)
      · rw [if_neg h3] at h; cases h
/-- An output turned is that output. -/
theorem ou_turn {L : Ly} {F : Nat} {wh : Nat → Bool} {aw an : Option Addr} {cw cn : Nat} (hF : 1 ≤ F) (hb : L.mb = 0) (x : Nat → Int) (k : Nat) : ouV (tuL L F wh aw cw an cn) F x k = ouV L F x k := by
  unfold ouV beV
  rw [if_neg (show ¬ 0 < (tuL L F wh aw cw an cn).mb by show ¬ 0 < L.mb; omega), if_neg (show ¬ 0 < L.mb by omega)]
  have hd : ∀ j, j < F → (k * F + j) / F = k := fun j hj => by rw [Nat.mul_comm, Nat.mul_add_div (by omega), Nat.div_eq_of_lt hj, Nat.add_zero]
  by_cases h : wh k = true
  · have e : smV (fun j => (tuL L F wh aw cw an cn).ws (k * F + j)) x F = -smV (fun j => L.ws (k * F + j)) x F := by
      rw [← sm_neg]
      refine sm_congl fun j hj => ?_
      show tuW L.ws F wh (k * F + j) = _
      unfold tuW
      rw [hd j hj, if_pos h]
    rw [e]
    have e2 : Wd.plV (tuN L.ns wh k 0) (tuN L.ns wh k 1) (tuN L.ns wh k 2) (tuN L.ns wh k 3) (tuN L.ns wh k 4) (tuN L.ns wh k 5) (tuN L.ns wh k 6) (tuN L.ns wh k 7) (-smV (fun j => L.ws (k * F + j)) x F) = Wd.plV (L.ns k 0) (L.ns k 1) (L.ns k 2) (L.ns k 3) (L.ns k 4) (L.ns k 5) (L.ns k 6) (L.ns k 7) (smV (fun j => L.ws (k * F + j)) x F) := by
      unfold tuN
      simp only [h, true_and]
      exact pl_turn _ _ _ _ _ _ _ _ _
    show (if Wd.plV (tuN L.ns wh k 0) (tuN L.ns wh k 1) (tuN L.ns wh k 2) (tuN L.ns wh k 3) (tuN L.ns wh k 4) (tuN L.ns wh k 5) (tuN L.ns wh k 6) (tuN L.ns wh k 7) (-smV (fun j => L.ws (k * F + j)) x F) = true then (1 : Int) else -1) = _
    rw [e2]
  · have e : smV (fun j => (tuL L F wh aw cw an cn).ws (k * F + j)) x F = smV (fun j => L.ws (k * F + j)) x F := by
      refine sm_congl fun j hj => ?_
      show tuW L.ws F wh (k * F + j) = _
      unfold tuW
      rw [hd j hj, if_neg h]
    rw [e]
    have e2 : ∀ c, tuN L.ns wh k c = L.ns k c := fun c => by unfold tuN; rw [if_neg (fun q => h q.1)]
    show (if Wd.plV (tuN L.ns wh k 0) (tuN L.ns wh k 1) (tuN L.ns wh k 2) (tuN L.ns wh k 3) (tuN L.ns wh k 4) (tuN L.ns wh k 5) (tuN L.ns wh k 6) (tuN L.ns wh k 7) _ = true then (1 : Int) else -1) = _
    rw [e2, e2, e2, e2, e2, e2, e2, e2]
theorem op_turn {L : Ly} {H V C F OW : Nat} {wh : Nat → Bool} {aw an : Option Addr} {cw cn : Nat} (hF : 1 ≤ F) (hb : L.mb = 0) (z : Nat → Int) (j : Nat) : opN (tuL L F wh aw cw an cn) H V C F OW z j = opN L H V C F OW z j := by
  unfold opN
  by_cases h2 : L.kd = 2
  · rw [if_pos (show (tuL L F wh aw cw an cn).kd = 2 from h2), if_pos h2]
    exact ou_turn hF hb _ _
  · rw [if_neg (show ¬ (tuL L F wh aw cw an cn).kd = 2 from h2), if_neg h2]
    by_cases h1 : L.kd = 1
    · rw [if_pos (show (tuL L F wh aw cw an cn).kd = 1 from h1), if_pos h1]
      exact ou_turn hF hb _ _
    · rw [if_neg (show ¬ (tuL L F wh aw cw an cn).kd = 1 from h1), if_neg h1]
      rfl
/-- Networks whose layers make the same of the same. -/
theorem val_same {N M : Nt} {x : Nat → Int} (hsp : ∀ i, i ≤ N.ml → sp M i = sp N i) (hfan : ∀ i, i < N.ml → fanN M i = fanN N i) (hop : ∀ i, i < N.ml → ∀ z j, opN (M.lf i) (sp N i).h.toNat (sp N i).v.toNat (cN N i) (fanN N i) (sp N (i + 1)).v.toNat z j = opN (N.lf i) (sp N i).h.toNat (sp N i).v.toNat (cN N i) (fanN N i) (sp N (i + 1)).v.toNat z j) : ∀ i, i ≤ N.ml → valN M x i = valN N x i := by
  intro i
  induction i with
  | zero => intro _; rfl
  | succ i ih =>
    intro hi
    rw [valN, valN, ih (by omega), hsp i (by omega), hsp (i + 1) hi, hfan i (by omega), show cN M i = cN N i by unfold cN; rw [hsp i (by omega)]]
    funext j
    exact hop i (by omega) _ j
end Go.Proofs.YtlgjoepeibodkaaGreat.Nn
/- PLAINTURNED: the network with outputs turned, and its trace. -/
namespace Go.Proofs.YtlgjoepeibodkaaGreat.Nn
open Go.RowKit

theorem tu_sp (N : Nt) (i0 F : Nat) (wh : Nat → Bool) (aw an ua : Option Addr) (cw cn uc : Nat) : ∀ i, sp (wiN N i0 (tuL (N.lf i0) F wh aw cw an cn) ua uc) i = sp N i
  | 0 => rfl
  | i + 1 => by
    have ih := tu_sp N i0 F wh aw an ua cw cn uc i
    show (⟨oH (sn N.lf i0 (tuL (N.lf i0) F wh aw cw an cn) i) _ _ _, oV (sn N.lf i0 (tuL (N.lf i0) F wh aw cw an cn) i) _ _ _, oC (sn N.lf i0 (tuL (N.lf i0) F wh aw cw an cn) i) _ _ _, _ + wc (sn N.lf i0 (tuL (N.lf i0) F wh aw cw an cn) i) _ _ _, false, _⟩ : Sp) = _
    rw [ih]
    unfold sn
    by_cases h : i = i0
    · subst h
      rw [if_pos rfl]
      rfl
    · rw [if_neg h]
      rfl
theorem tu_fan (N : Nt) (i0 F : Nat) (wh : Nat → Bool) (aw an ua : Option Addr) (cw cn uc i : Nat) : fanN (wiN N i0 (tuL (N.lf i0) F wh aw cw an cn) ua uc) i = fanN N i := by
  unfold fanN
  rw [tu_sp]
  show (fan (sn N.lf i0 (tuL (N.lf i0) F wh aw cw an cn) i) _ _ _).toNat = _
  unfold sn
  by_cases h : i = i0
  · subst h
    rw [if_pos rfl]
    rfl
  · rw [if_neg h]
theorem tu_ok {N : Nt} (hz : chE N = 0) (i0 F : Nat) (wh : Nat → Bool) (aw an ua : Option Addr) (cw cn uc : Nat) : chE (wiN N i0 (tuL (N.lf i0) F wh aw cw an cn) ua uc) = 0 := by
  obtain ⟨hw0, hf⟩ := fl_all hz
  refine (ch_ok (show whE (wiN N i0 (tuL (N.lf i0) F wh aw cw an cn) ua uc) = 0 from hw0) fun j hj => ?_).1
  have hj : j < N.ml := hj
  have h : faE (N.lf j) (sp N j) = 0 := hf j hj
  unfold fl
  rw [tu_sp]
  show faE (sn N.lf i0 (tuL (N.lf i0) F wh aw cw an cn) j) (sp N j) = 0
  unfold sn
  by_cases h0 : j = i0
  · subst h0
    rw [if_pos rfl]
    exact fa_turn h
  · rw [if_neg h0]
    exact h
/-- What a layer with norms is. -/
theorem nm_layer {N : Nt} (hz : chE N = 0) {i : Nat} (hi : i < N.ml) (hn : 0 < (N.lf i).mn) : (N.lf i).mb = 0 ∧ ((N.lf i).mn : Int) = (N.lf i).k ∧ (1 ≤ (N.lf i).k ∧ (N.lf i).k ≤ 4096) ∧ 1 ≤ fanN N i ∧ (N.lf i).mw = (N.lf i).k.toNat * fanN N i ∧ (N.lf i).mw ≤ 16777216 ∧ (∀ j, j < (N.lf i).mw → -1 ≤ (N.lf i).ws j ∧ (N.lf i).ws j ≤ 1) ∧ ∀ j, j < (N.lf i).mn → nno (N.lf i) j = 0 := by
  have h0 : faE (N.lf i) (sp N i) = 0 := (fl_all hz).2 i hi
  have hs := sp_all hz i (by omega)
  have hk : ¬ (N.lf i).kd = 3 := fun h3 => by
    unfold faE at h0
    rw [if_neg (by omega), if_neg (by omega), if_pos h3] at h0
    have h := frF_z h0
    have h4 : owE (N.lf i) = 0 := h 2 (by decide)
    unfold owE at h4
    have := (zero_else (by decide) h4).1
    omega
  obtain ⟨hws, hend⟩ := lay_ws h0 hk
  obtain ⟨-, -, K, F, eK, eF, k1, k2, hmw, f1, hKF, -, -⟩ := lay_w hs h0 hk
  have hfan : fanN N i = F := by unfold fanN; rw [eF]; rfl
  have hnn : nmE (N.lf i) = 0 := by
    unfold faE at h0
    by_cases h1 : (N.lf i).kd = 1
    · rw [if_pos h1] at h0
      exact frF_z h0 8 (by decide)
    · rw [if_neg h1] at h0
      by_cases h2 : (N.lf i).kd = 2
      · rw [if_pos h2] at h0
        have h5 : enE (N.lf i) (sp N i) = 0 := frF_z h0 5 (by decide)
        unfold enE at h5
        by_cases hl : (sp N i).la = true
        · rw [if_pos hl] at h5
          have := zero_else (by decide) h5
          omega
        · rw [if_neg hl] at h5
          exact h5
      · rw [if_neg h2, if_neg hk] at h0
        cases h0
  unfold nmE at hnn
  have hnn := zero_else (by decide) hnn
  rw [hfan]
  exact ⟨hnn.1.2, hnn.1.1, ⟨by omega, by omega⟩, f1, by rw [eK]; exact hmw, by rw [hmw]; exact hKF, hws, hnn.2⟩
theorem tu_to (N : Nt) (i0 F : Nat) (wh : Nat → Bool) (aw an ua : Option Addr) (cw cn uc : Nat) : toN (wiN N i0 (tuL (N.lf i0) F wh aw cw an cn) ua uc) = toN N := by
  unfold toN
  simp only [tu_sp]
/-- The trace of the network with outputs turned. -/
theorem tu_trace {N : Nt} (hz : chE N = 0) (hcw : ∀ j, j < N.ml → (N.lf j).mw ≤ (N.lf j).cw) (hwo : woV N N.ml ≤ 4194304) {i0 F : Nat} (hi : i0 < N.ml) (hn : 0 < (N.lf i0).mn) (hF : F = fanN N i0) {wh : Nat → Bool} {aw an ua : Option Addr} {cw cn uc : Nat} (hc : (N.lf i0).mw ≤ cw) {m : Nat} (hsz : (m : Int) = N.h * N.v * N.c) (ao : Option Addr) (cap : Nat) (f : Nat → Int) (W : World) (hN : NtW W (wiN N i0 (tuL (N.lf i0) F wh aw cw an cn) ua uc)) (hx : RB W ao m f) :
    Calls Tryz.prog 8 #[ntv (wiN N i0 (tuL (N.lf i0) F wh aw cw an cn) ua uc), .slice ao m cap] W fun e w' => ∃ g c, e = .returned (.tuple #[.slice (some ⟨g, 0, none⟩) N.ml c, .int .i64 0]) ∧ StN w' N f g ∧ Below W.heap.size W w' := by
  have hm := nm_layer hz hi hn
  refine (bo_trace (tu_ok hz i0 F wh aw an ua cw cn uc) (fun j hj => ?_) (by rw [tu_to]; exact to_fits hz hwo) hsz ao cap f W hN hx).mono fun e w' h => ?_
  · have hj : j < N.ml := hj
    show (sn N.lf i0 (tuL (N.lf i0) F wh aw cw an cn) j).mw ≤ (sn N.lf i0 (tuL (N.lf i0) F wh aw cw an cn) j).cw
    unfold sn
    by_cases h0 : j = i0
    · rw [if_pos h0]
      exact hc
    · rw [if_neg h0]
      exact hcw j hj
  · obtain ⟨g, c, rfl, hS, hb⟩ := h
    refine ⟨g, c, rfl, ?_, hb⟩
    refine StR.congr hS fun j hj => ?_
    have hj : j < N.ml := hj
    have hv := val_same (N := N) (M := wiN N i0 (tuL (N.lf i0) F wh aw cw an cn) ua uc) (x := fun i => s8 (f i)) (fun i _ => tu_sp N i0 F wh aw an ua cw cn uc i) (fun i _ => tu_fan N i0 F wh aw an ua cw cn uc i) (fun i _ z q => by
      show opN (sn N.lf i0 (tuL (N.lf i0) F wh aw cw an cn) i) _ _ _ _ _ z q = _
      unfold sn
      by_cases h0 : i = i0
      · subst h0
        rw [if_pos rfl, ← hF]
        exact op_turn (by rw [hF]; exact hm.2.2.2.1) hm.1 z q
      · rw [if_neg h0]) (j + 1) hj
    have hs := tu_sp N i0 F wh aw an ua cw cn uc (j + 1)
    exact ⟨by rw [hs], by rw [hs], by rw [hs], by unfold szN cN; rw [hs], fun q _ => by rw [hv]⟩
end Go.Proofs.YtlgjoepeibodkaaGreat.Nn
/- PLAINTURNED, PLAINORDER: lists of a layer, copied and written; a layer with norms. -/
namespace Go.Proofs.YtlgjoepeibodkaaGreat.Nn
open Go.RowKit

/-- The cells of a list, by their places. -/
def clT (n : Nat) (f : Nat → Value) : List Value := (List.range n).map f
theorem clT_len (n : Nat) (f : Nat → Value) : (clT n f).length = n := by simp [clT]
theorem clT_get {n : Nat} {f : Nat → Value} {j : Nat} {u : Value} (h : (clT n f)[j]? = some u) : j < n ∧ u = f j := by
  unfold clT at h
  rw [List.getElem?_map] at h
  by_cases hj : j < n
  · rw [List.getElem?_range hj] at h
    simp at h
    exact ⟨hj, h.symm⟩
  · rw [List.getElem?_eq_none (by simpa using hj)] at h
    cases h
theorem clT_at {n : Nat} {f : Nat → Value} {j : Nat} (h : j < n) : (clT n f)[j]? = some (f j) := by
  unfold clT
  rw [List.getElem?_map, List.getElem?_range h]; rfl
theorem clT_mem {n : Nat} {f : Nat → Value} {u : Value} (h : u ∈ clT n f) : ∃ j, u = f j := by
  obtain ⟨k, _, rfl⟩ := List.mem_map.1 h
  exact ⟨k, rfl⟩
theorem clT_congr {n : Nat} {f g : Nat → Value} (h : ∀ j, j < n → f j = g j) : clT n f = clT n g := by
  unfold clT
  exact List.map_congr_left fun j hj => h j (List.mem_range.1 hj)
theorem clT_set {n p : Nat} {f : Nat → Value} {v : Value} (hp : p < n) : (clT n f).set p v = clT n fun j => if j = p then v else f j := by
  apply List.ext_getElem?
  intro k
  rw [List.getElem?_set]
  by_cases hk : p = k
  · subst hk
    rw [if_pos rfl, if_pos (by rw [clT_len]; exact hp), clT_at hp, if_pos rfl]
  · rw [if_neg hk]
    by_cases hkn : k < n
    · rw [clT_at hkn, clT_at hkn, if_neg (by omega)]
    · rw [List.getElem?_eq_none (by rw [clT_len]; omega), List.getElem?_eq_none (by rw [clT_len]; omega)]
theorem clT_snoc (n : Nat) (f : Nat → Value) : clT (n + 1) f = clT n f ++ [f n] := by simp [clT, List.range_succ]
def nmT (L : Ly) (x : Nat) : Value := .int .i64 (L.ns (x / 8) (x % 8))
/-- A layer's weights, or norms, copied behind nothing. -/
theorem app_clWT {ops : Array Oper} {rest : List Oper} {o : Oper} {a : Act} {Q : Exit → Act → World → Prop} {w : World} (hgd : o.guard = none) (s x : Operand)
    (ho : o.op = .call { callee := .builtin .append, args := #[s, x], argTypes := #[34, 34] }) (L : Ly) (hs : a.eval s = .slice none 0 0) (hx : a.eval x = .slice L.aw L.mw L.cw) (hW : Wts w L) (hm : 1 ≤ L.mw ∧ L.mw ≤ 16777216)
    (h : ∀ v' w', w'.ownsRow w.heap.size 39 1 v' L.mw (clT L.mw fun j => .int .i8 (L.ws j)) → Below w.heap.size w w' → wpList Tryz.prog ops Q rest (a.put o.dst v') w') : wpList Tryz.prog ops Q (o :: rest) a w := by
  obtain ⟨i0, hi, hz0, hz1, hz2⟩ := info_parts info_i8P
  unfold Wts at hW
  obtain ⟨g, o0, e, -⟩ := hW 0 (by omega)
  rw [e] at hx
  refine wpList_append_own w hgd s x _ ho w.heap.size 39 i0 _ 1 1 und_i8P hi hz0 hz1 hz2 rfl (by decide) (.slice none 0 0) 0 [] hs (World.ownsRow_nil _ _ _ _) ⟨g, o0, none⟩ L.mw L.cw (clT L.mw fun j => .int .i8 (L.ws j)) hx (by rw [clT_len]; omega) ?_ (fun u hu => by obtain ⟨j, rfl⟩ := clT_mem hu; rfl) (by unfold maxLen; omega) (by omega) (Nat.le_refl _) ?_
  · intro j u hu
    obtain ⟨hj, rfl⟩ := clT_get hu
    obtain ⟨g2, o2, e2, c⟩ := hW j hj
    rw [e] at e2
    cases e2
    rw [show (⟨g, o0, none⟩ : Addr).add j = ⟨g, o0 + j, none⟩ by simp [Addr.add]]
    exact c
  · intro v' w' k1 k2 _
    rw [Nat.zero_add, List.nil_append] at k1
    exact h v' w' k1 (gr_bel k2 (Below.refl _ _) (fun q hq => by cases hq))
theorem app_clNT {ops : Array Oper} {rest : List Oper} {o : Oper} {a : Act} {Q : Exit → Act → World → Prop} {w : World} (hgd : o.guard = none) (s x : Operand)
    (ho : o.op = .call { callee := .builtin .append, args := #[s, x], argTypes := #[35, 35] }) (L : Ly) (hs : a.eval s = .slice none 0 0) (hx : a.eval x = .slice L.an L.mn L.cn) (hW : Nms w L) (hm : 1 ≤ L.mn ∧ L.mn ≤ 4096)
    (h : ∀ v' w', w'.ownsRow w.heap.size 43 8 v' L.mn (clT (L.mn * 8) (nmT L)) → Below w.heap.size w w' → wpList Tryz.prog ops Q rest (a.put o.dst v') w') : wpList Tryz.prog ops Q (o :: rest) a w := by
  obtain ⟨i0, hi, hz0, hz1, hz2⟩ := info_parts info_nrD
  unfold Nms at hW
  obtain ⟨g, o0, e, -⟩ := hW 0 (by omega)
  rw [e] at hx
  refine wpList_append_own w hgd s x _ ho w.heap.size 43 i0 _ 8 64 und_nrD hi hz0 hz1 hz2 rfl (by decide) (.slice none 0 0) 0 [] hs (World.ownsRow_nil _ _ _ _) ⟨g, o0, none⟩ L.mn L.cn (clT (L.mn * 8) (nmT L)) hx (by rw [clT_len]) ?_ (fun u hu => by obtain ⟨j, rfl⟩ := clT_mem hu; rfl) (by unfold maxLen; omega) (by omega) (Nat.le_refl _) ?_
  · intro j u hu
    obtain ⟨hj, rfl⟩ := clT_get hu
    obtain ⟨g2, o2, e2, c0, c1, c2, c3, c4, c5, c6, c7⟩ := hW (j / 8) (by omega)
    rw [e] at e2
    cases e2
    rw [show (⟨g, o0, none⟩ : Addr).add j = ⟨g, o0 + j, none⟩ by simp [Addr.add], show o0 + j = o0 + j / 8 * 8 + j % 8 by omega]
    unfold nmT
    have hc : j % 8 < 8 := by omega
    generalize j / 8 = q at c0 c1 c2 c3 c4 c5 c6 c7 ⊢
    generalize j % 8 = c at hc ⊢
    rcases (show c = 0 ∨ c = 1 ∨ c = 2 ∨ c = 3 ∨ c = 4 ∨ c = 5 ∨ c = 6 ∨ c = 7 by omega) with rfl | rfl | rfl | rfl | rfl | rfl | rfl | rfl
    · exact c0
    · exact c1
    · exact c2
    · exact c3
    · exact c4
    · exact c5
    · exact c6
    · exact c7
  · intro v' w' k1 k2 _
    rw [Nat.zero_add, List.nil_append] at k1
    exact h v' w' k1 (gr_bel k2 (Below.refl _ _) (fun q hq => by cases hq))
theorem ownNeT {W : World} {b1 b2 e1 e2 s1 s2 n1 n2 q : Nat} {v1 v2 : Value} {x1 x2 : List Value} (h1 : W.ownsRow b1 e1 s1 v1 n1 x1) (h2 : W.ownsRow b2 e2 s2 v2 n2 x2) (hne : e1 ≠ e2) (hq : v2.ownBlock = some q) : ∀ p, v1.ownBlock = some p → p ≠ q := fun p hp e => by
  subst e
  rcases own_neD h1 h2 hne with h | h
  · rw [h] at hp; cases hp
  · exact h (hp.trans hq.symm)
theorem rowNeT {W : World} {g t k b2 e2 s2 n2 q : Nat} {F : Nat → Value} {v2 : Value} {x2 : List Value} (h : W.rowIs g t k F) (h2 : W.ownsRow b2 e2 s2 v2 n2 x2) (hne : e2 ≠ t) (hq : v2.ownBlock = some q) : g ≠ q := fun e => (own_ne_row h2 h hne q hq) e.symm
/-- A layer with its weights and norms elsewhere. -/
abbrev lsL (L : Ly) (aw : Option Addr) (cw : Nat) (an : Option Addr) (cn : Nat) : Ly := ⟨L.kd, L.wt, L.k, L.r, L.s, L.sy, L.sx, L.t, L.l, L.b, L.q, L.bd, aw, L.mw, cw, an, L.mn, cn, L.ab, L.mb, L.cb, L.ws, L.ns, L.bs⟩
/-- The layer that is written: its box, its weights, its norms. -/
def TuM (W : World) (base g : Nat) (L : Ly) (aw : Option Addr) (cw : Nat) (an : Option Addr) (cn : Nat) (ws nf : Nat → Int) : Prop := W.rowIs g 38 15 (lyf (lsL L aw cw an cn)) ∧ W.ownsRow base 39 1 (.slice aw L.mw cw) L.mw (clT L.mw fun j => .int .i8 (ws j)) ∧ W.ownsRow base 43 8 (.slice an L.mn cn) L.mn (clT (L.mn * 8) fun j => .int .i64 (nf j))
theorem TuM.keep {W X : World} {base g : Nat} {L : Ly} {aw an : Option Addr} {cw cn : Nat} {ws nf : Nat → Int} (h : TuM W base g L aw cw an cn ws nf) (hb : Below W.heap.size W X) : TuM X base g L aw cw an cn ws nf := ⟨World.rowIs.of_block h.1 (hb.block _ h.1.lt), own_bl h.2.1 hb, own_bl h.2.2 hb⟩
theorem TuM.wset {W : World} {base g p q : Nat} {L : Ly} {aw an : Option Addr} {cw cn : Nat} {ws nf : Nat → Int} (h : TuM W base g L aw cw an cn ws nf) (hq : aw = some ⟨q, 0, none⟩) (hp : p < L.mw) (y : Int) : TuM (W.setCell ⟨q, p, none⟩ (.int .i8 y)) base g L aw cw an cn (fun j => if j = p then y else ws j) nf := by
  obtain ⟨h1, h2, h3⟩ := h
  subst hq
  refine ⟨h1.setOther (by show g ≠ q; exact rowNeT h1 h2 (by decide) rfl) _, ?_, own_setNe h3 (ownNeT h3 h2 (by decide) rfl)⟩
  have := (h2.stored p (.int .i8 y)).1
  rw [clT_set hp] at this
  rw [show (clT L.mw fun j => Value.int .i8 (if j = p then y else ws j)) = clT L.mw fun j => if j = p then .int .i8 y else .int .i8 (ws j) from clT_congr fun j _ => by by_cases e : j = p <;> simp [e]]
  exact this
theorem TuM.nset {W : World} {base g p q : Nat} {L : Ly} {aw an : Option Addr} {cw cn : Nat} {ws nf : Nat → Int} (h : TuM W base g L aw cw an cn ws nf) (hq : an = some ⟨q, 0, none⟩) (hp : p < L.mn * 8) (y : Int) : TuM (W.setCell ⟨q, p, none⟩ (.int .i64 y)) base g L aw cw an cn ws (fun j => if j = p then y else nf j) := by
  obtain ⟨h1, h2, h3⟩ := h
  subst hq
  refine ⟨h1.setOther (by show g ≠ q; exact rowNeT h1 h3 (by decide) rfl) _, own_setNe h2 (ownNeT h2 h3 (by decide) rfl), ?_⟩
  have := (h3.stored p (.int .i64 y)).1
  rw [clT_set hp] at this
  rw [show (clT (L.mn * 8) fun j => Value.int .i64 (if j = p then y else nf j)) = clT (L.mn * 8) fun j => if j = p then .int .i64 y else .int .i64 (nf j) from clT_congr fun j _ => by by_cases e : j = p <;> simp [e]]
  exact this
theorem TuM.congr {W : World} {base g : Nat} {L : Ly} {aw an : Option Addr} {cw cn : Nat} {ws nf ws' nf' : Nat → Int} (h : TuM W base g L aw cw an cn ws nf) (h1 : ∀ j, j < L.mw → ws j = ws' j) (h2 : ∀ j, j < L.mn * 8 → nf j = nf' j) : TuM W base g L aw cw an cn ws' nf' := by
  refine ⟨h.1, ?_, ?_⟩
  · rw [← clT_congr (f := fun j => Value.int .i8 (ws j)) fun j hj => by rw [h1 j hj]]
    exact h.2.1
  · rw [← clT_congr (f := fun j => Value.int .i64 (nf j)) fun j hj => by rw [h2 j hj]]
    exact h.2.2
/-- The cells of what is written. -/
theorem TuM.wc {W : World} {base g : Nat} {L : Ly} {aw an : Option Addr} {cw cn : Nat} {ws nf : Nat → Int} (h : TuM W base g L aw cw an cn ws nf) (hm : 1 ≤ L.mw) : ∃ q, aw = some ⟨q, 0, none⟩ ∧ base ≤ q ∧ L.mw ≤ cw ∧ (∀ p, p < L.mw → W.cell? ⟨q, p, none⟩ = some (.int .i8 (ws p))) ∧ ∀ p, W.frozen? ⟨q, p, none⟩ = false := by
  obtain ⟨q, e, h1, h2, -, hc⟩ := own_cellsS h.2.1 hm
  subst e
  refine ⟨q, rfl, h2, h1, fun p hp => ?_, fun p => h.2.1.frozenAt p⟩
  rw [hc p (by omega), clT_at hp]
theorem TuM.nc {W : World} {base g : Nat} {L : Ly} {aw an : Option Addr} {cw cn : Nat} {ws nf : Nat → Int} (h : TuM W base g L aw cw an cn ws nf) (hm : 1 ≤ L.mn) : ∃ q, an = some ⟨q, 0, none⟩ ∧ base ≤ q ∧ (∀ p, p < L.mn * 8 → W.cell? ⟨q, p, none⟩ = some (.int .i64 (nf p))) ∧ ∀ p, W.frozen? ⟨q, p, none⟩ = false := by
  obtain ⟨q, e, -, h2, -, hc⟩ := own_cellsS h.2.2 hm
  subst e
  refine ⟨q, rfl, h2, fun p hp => ?_, fun p => h.2.2.frozenAt p⟩
  rw [hc p hp, clT_at hp]
/-- The list of lists: the layer written is a layer. -/
theorem TuM.lst {W : World} {base g : Nat} {L T : Ly} {aw an : Option Addr} {cw cn : Nat} {ws nf : Nat → Int} (h : TuM W base g L aw cw an cn ws nf) (hm : 1 ≤ L.mw ∧ L.mw ≤ 16777216) (hn : 1 ≤ L.mn ∧ L.mn ≤ 4096) (hb : Bss W L) (hbm : L.mb ≤ 9223372036854775807)
    (e1 : T.aw = aw ∧ T.mw = L.mw ∧ T.an = an ∧ T.mn = L.mn) (e2 : T.ab = L.ab ∧ T.mb = L.mb ∧ T.bs = L.bs) (h1 : ∀ j, j < L.mw → T.ws j = ws j) (h2 : ∀ j, j < L.mn → ∀ c, c < 8 → T.ns j c = nf (j * 8 + c)) : Lst W T := by
  obtain ⟨a1, a2, a3, a4⟩ := e1
  obtain ⟨b1, b2, b3⟩ := e2
  obtain ⟨q, eq, -, -, hw, -⟩ := h.wc hm.1
  obtain ⟨r, er, -, hr, -⟩ := h.nc hn.1
  refine ⟨fun j hj => ?_, fun j hj => ?_, fun j hj => ?_, by omega, by omega, by omega⟩
  · refine ⟨q, 0, by rw [a1, eq], ?_⟩
    rw [Nat.zero_add, hw j (by omega), h1 j (by omega)]
  · have hj : j < L.mn := by omega
    have key : ∀ c, c < 8 → W.cell? ⟨r, 0 + j * 8 + c, none⟩ = some (.int .i64 (T.ns j c)) := fun c hc => by rw [Nat.zero_add, hr _ (by omega), h2 j hj c hc]
    exact ⟨r, 0, by rw [a3, er], key 0 (by decide), key 1 (by decide), key 2 (by decide), key 3 (by decide), key 4 (by decide), key 5 (by decide), key 6 (by decide), key 7 (by decide)⟩
  · rw [b1, b3]
    exact hb j (by omega)
end Go.Proofs.YtlgjoepeibodkaaGreat.Nn
/- PLAINTURNED, PLAINORDER: inner: a layer with norms. -/
namespace Go.Proofs.YtlgjoepeibodkaaGreat.Nn
open Go.RowKit

theorem info_itT : (Tryz.prog.info? 3).map (fun i => (i.zero, i.size, i.bytes)) = some (some (.int .i64 0), 1, 8) := by kernel_rfl
theorem und_itT : Tryz.prog.underlying 51 = some (.slice 3) := by kernel_rfl
def itL (l : List Int) : List Value := l.map (Value.int .i64)
theorem itL_snoc (l : List Int) (x : Int) : itL (l ++ [x]) = itL l ++ [.int .i64 x] := by simp [itL]
theorem app_itT {ops : Array Oper} {rest : List Oper} {o : Oper} {a : Act} {Q : Exit → Act → World → Prop} {w : World} (hgd : o.guard = none) (s x : Operand)
    (ho : o.op = .call { callee := .builtin .append, args := #[s, x], argTypes := #[51, 51] }) (base : Nat) (v : Value) (l : List Int) (n : Nat) (hs : a.eval s = v) (hown : w.ownsRow base 3 1 v n (itL l))
    (g : Nat) (y : Int) (cb : Nat) (hx : a.eval x = .slice (some ⟨g, 0, none⟩) 1 cb) (hr : w.cell? ⟨g, 0, none⟩ = some (.int .i64 y)) (hM : n ≤ 1000000000) (hb : base ≤ w.heap.size)
    (h : ∀ v' w', w'.ownsRow base 3 1 v' (n + 1) (itL (l ++ [y])) → w.grownBy w' v.ownBlock → wpList Tryz.prog ops Q rest (a.put o.dst v') w') : wpList Tryz.prog ops Q (o :: rest) a w := by
  obtain ⟨i0, hi, hz0, hz1, hz2⟩ := info_parts info_itT
  refine wpList_append_own_at w hgd s x _ ho base 3 i0 (.int .i64 0) 1 8 und_itT hi hz0 hz1 hz2 rfl (by decide) v n (itL l) hs hown ⟨g, 0, none⟩ 1 cb [.int .i64 y] hx rfl
    (fun j u hu => ?_) (fun u hu => by simp at hu; subst hu; rfl) (by unfold maxLen; omega) (by omega) hb ?_
  · rcases j with _ | j
    · simp at hu; subst hu; exact hr
    · simp at hu
  · intro v' w' h1 h2 _ h3
    exact h v' w' (by rw [itL_snoc]; exact h1) h2
theorem tmod_in (x : Int) (k : Nat) (hk : 1 ≤ k) : -(k : Int) < x.tmod k ∧ x.tmod k < k := by
  by_cases h : 0 ≤ x
  · rw [Int.tmod_eq_emod_of_nonneg h]
    have h1 := Int.emod_nonneg x (show (k : Int) ≠ 0 by omega)
    have h2 := Int.emod_lt_of_pos x (show (0 : Int) < k by omega)
    omega
  · have e : x.tmod k = -((-x).tmod k) := by rw [Int.neg_tmod]; omega
    rw [e, Int.tmod_eq_emod_of_nonneg (show 0 ≤ -x by omega)]
    have h1 := Int.emod_nonneg (-x) (show (k : Int) ≠ 0 by omega)
    have h2 := Int.emod_lt_of_pos (-x) (show (0 : Int) < k by omega)
    omega
/-- What is in the list of layers with norms. -/
abbrev InP (N : Nt) (l : List Int) (k : Nat) : Prop := l.length = k ∧ ∀ x ∈ l, ∃ q : Nat, x = (q : Int) ∧ q < N.ml ∧ 0 < (N.lf q).mn
theorem InP.at {N : Nt} {l : List Int} {k : Nat} (h : InP N l k) {p : Nat} (hp : p < k) : ∃ q : Nat, (itL l)[p]? = some (.int .i64 (q : Int)) ∧ q < N.ml ∧ 0 < (N.lf q).mn := by
  have hl : p < l.length := by rw [h.1]; exact hp
  obtain ⟨q, e, h1, h2⟩ := h.2 l[p] (List.getElem_mem hl)
  refine ⟨q, ?_, h1, h2⟩
  unfold itL
  rw [List.getElem?_map, List.getElem?_eq_getElem hl, e]
  rfl
set_option maxHeartbeats 6400000 in
set_option maxRecDepth 100000 in
theorem inner_any (N : Nt) (at0 : Int) (hm : N.ml ≤ 64) (w : World) (hN : NtW w N) :
    Calls Tryz.prog 7 #[ntv N, .int .i64 at0] w fun e w' => ∃ r : Int, e = .returned (.int .i64 r) ∧ (r = -1 ∨ ∃ i : Nat, r = (i : Int) ∧ i < N.ml ∧ 0 < (N.lf i).mn) ∧ Below w.heap.size w w' := by
  have HN := hid1 hN
  clear hN
  obtain ⟨b, hb0⟩ : ∃ b, w.heap.size = b := ⟨_, rfl⟩
  go_enter Tryz.func7, Tryz.ntmps7
  go_upto_region 1 with fail
  refine gen_world (fun X => X.rowIs b 26 5 (netF N.nm N.h N.v N.c (.slice N.al N.ml N.cl)) ∧ Below w.heap.size w X) ⟨by rw [← hb0]; exact net_newF _ _ _ _ _ _ _, by repeat (first | (with_reducible exact Below.refl _ _) | (with_reducible refine bl_alloc ?_ _) | (with_reducible refine Below.drew ?_))⟩ ?_
  rintro X0 ⟨R0, B0⟩
  have HR0 := hid1 R0
  have HB0 := hid1 B0
  have HBW := hid1 hb0
  clear R0 B0 hb0
  go_wp2_with fail
  go_loopw [5, 6] (fun s5 s6 wr => ∃ (i k : Nat) (la : Option Addr) (lc : Nat) (l : List Int), i ≤ N.ml ∧ k ≤ i ∧ s6 = .int .i64 i ∧ s5 = .slice la k lc ∧ Hid (Below w.heap.size w wr) ∧ Hid (wr.rowIs b 26 5 (netF N.nm N.h N.v N.c (.slice N.al N.ml N.cl))) ∧ Hid (wr.ownsRow (b + 1) 3 1 (.slice la k lc) k (itL l)) ∧ Hid (InP N l k)) (fun _ s6 _ => N.ml - (intOf s6).toNat)
  case atStart => exact ⟨0, 0, none, 0, [], Nat.zero_le _, Nat.le_refl _, rfl, rfl, HB0, HR0, hid1 (World.ownsRow_nil _ _ _ _), hid1 ⟨rfl, fun x hx => by cases hx⟩⟩
  case round =>
    clear HB0 HR0
    obtain ⟨i, k, la, lc, l, hi, hk, rfl, rfl, HB, HR, HO, HP⟩ := hrel
    have n4 : wr.cell? ⟨b, 4, none⟩ = some (.slice N.al N.ml N.cl) := HR.out.cell (i := 4) (by decide)
    have i0 : (0 : Int) ≤ (i : Int) := by omega
    by_cases hlt : i < N.ml
    · have ilt : (i : Int) < (N.ml : Int) := by omega
      obtain ⟨g, o, e, LC, -⟩ := (HN.out.keep HB.out).1 i hlt
      obtain ⟨-, -, -, -, -, -, -, -, -, -, -, -, -, c13, -⟩ := LC
      rw [e] at n4
      clear e
      by_cases hn : 0 < (N.lf i).mn
      · have hni : (0 : Int) < ((N.lf i).mn : Int) := by omega
        go_wp2_with (at_builtin; refine app_itT rfl _ _ rfl (b + 1) (.slice la k lc) l k (by go_simp) (own_bl HO.out (bl_alloc (Below.refl _ _) _)) wr.heap.size (i : Int) 1 (by go_simp) (by simp [go_sem]) (by omega) (by have := HR.out.lt; simp; omega) ?_; intro v3 y3 own3 gr3; obtain ⟨a3, c3, rfl⟩ := own_isP own3; have H3 := hid1 own3; have B3 := hid1 (gr_bel gr3 (bl_alloc HB.out _) (fun q hq => by have := (HO.out.lt q hq).1; have := HBW.out; omega)); have R3 := hid1 (World.rowIs.of_block (HR.out.alloc _) (gr3.block b (by have := HR.out.lt; simp; omega) (fun e => by first | (have := (HO.out.lt b e).1; omega) | (have := (HO.out.lt b e.symm).1; omega)))); clear own3 gr3)
        exact ⟨⟨i + 1, k + 1, a3, c3, l ++ [(i : Int)], by omega, by omega, by go_num, rfl, B3, R3, H3, hid1 ⟨by simp [HP.out.1], fun x hx => by
          rcases List.mem_append.1 hx with h | h
          · exact HP.out.2 x h
          · simp at h
            exact ⟨i, h, hlt, hn⟩⟩⟩, by simp [intOf]; omega⟩
      · have hni : ¬ (0 : Int) < ((N.lf i).mn : Int) := by omega
        go_wp2_with fail
        exact ⟨⟨i + 1, k, la, lc, l, by omega, by omega, by go_num, rfl, HB, HR, HO, HP⟩, by simp [intOf]; omega⟩
    · have ilt : ¬ (i : Int) < (N.ml : Int) := by omega
      by_cases hk0 : k = 0
      · subst hk0
        go_wp2_with fail
        go_ret
        exact ⟨_, rfl, .inl rfl, HB.out⟩
      · have hk1 : ¬ (k : Int) = 0 := by omega
        obtain ⟨g, e, -, -, -, hc⟩ := own_cellsS HO.out (by omega)
        subst e
        obtain ⟨t, ht⟩ : ∃ t, at0.tmod (k : Int) = t := ⟨_, rfl⟩
        have hb := tmod_in at0 k (by omega)
        rw [ht] at hb
        have wt : IntKind.i64.wrap t = t := by rw [IntKind.wrap_i64]; omega
        by_cases ht0 : t < 0
        · obtain ⟨p, hp⟩ := Int.eq_ofNat_of_zero_le (show 0 ≤ t + k by omega)
          have hpk : p < k := by omega
          obtain ⟨q, e, hq1, hq2⟩ := HP.out.at hpk
          have cc : wr.cell? ⟨g, p, none⟩ = some (.int .i64 (q : Int)) := by rw [hc p (by omega), e]
          have wp' : IntKind.i64.wrap (t + k) = (p : Int) := by rw [hp, IntKind.wrap_i64]; omega
          have ip0 : (0 : Int) ≤ (p : Int) := by omega
          have ipk : (p : Int) < (k : Int) := by omega
          clear hc hp hb HO e
          go_wp2_with fail
          go_ret
          exact ⟨_, rfl, .inr ⟨q, rfl, hq1, hq2⟩, HB.out⟩
        · obtain ⟨p, rfl⟩ := Int.eq_ofNat_of_zero_le (show 0 ≤ t by omega)
          have hpk : p < k := by omega
          obtain ⟨q, e, hq1, hq2⟩ := HP.out.at hpk
          have cc : wr.cell? ⟨g, p, none⟩ = some (.int .i64 (q : Int)) := by rw [hc p (by omega), e]
          have ip0 : (0 : Int) ≤ (p : Int) := by omega
          have ipk : (p : Int) < (k : Int) := by omega
          clear hc hb HO e
          go_wp2_with fail
          go_ret
          exact ⟨_, rfl, .inr ⟨q, rfl, hq1, hq2⟩, HB.out⟩
end Go.Proofs.YtlgjoepeibodkaaGreat.Nn
/- PLAINORDER: outputs in another order, the mathematics of sums. -/
namespace Go.Proofs.YtlgjoepeibodkaaGreat.Nn
open Go.RowKit

/-- The numbers below K in another order. -/
def Prm (K : Nat) (o : Nat → Nat) : Prop := ((List.range K).map o).Perm (List.range K)
theorem Prm.lt {K : Nat} {o : Nat → Nat} (h : Prm K o) {k : Nat} (hk : k < K) : o k < K := by
  have : o k ∈ (List.range K).map o := List.mem_map.2 ⟨k, List.mem_range.2 hk, rfl⟩
  exact List.mem_range.1 (h.mem_iff.1 this)
theorem isum_perm {l m : List Int} (h : l.Perm m) : l.sum = m.sum := by
  induction h with
  | nil => rfl
  | cons x _ ih => rw [List.sum_cons, List.sum_cons, ih]
  | swap x y l => rw [List.sum_cons, List.sum_cons, List.sum_cons, List.sum_cons]; omega
  | trans _ _ h1 h2 => exact h1.trans h2
theorem sm_list (f g : Nat → Int) : ∀ n, smV f g n = ((List.range n).map fun k => f k * g k).sum
  | 0 => rfl
  | n + 1 => by rw [smV, sm_list f g n, List.range_succ, List.map_append, List.sum_append]; simp
theorem sm_perm {f g : Nat → Int} {K : Nat} {o : Nat → Nat} (h : Prm K o) : smV (fun c => f (o c)) (fun c => g (o c)) K = smV f g K := by
  rw [sm_list, sm_list]
  have := isum_perm (h.map fun k => f k * g k)
  rw [List.map_map] at this
  exact this
theorem sm_split (f g : Nat → Int) (a : Nat) : ∀ b, smV f g (a + b) = smV f g a + smV (fun j => f (a + j)) (fun j => g (a + j)) b
  | 0 => by simp [smV]
  | b + 1 => by
    rw [← Nat.add_assoc, smV, smV, sm_split f g a b]
    omega
/-- Sums of places, each of whose channels come in another order. -/
theorem sm_blocks {f g f' g' : Nat → Int} {K : Nat} {o : Nat → Nat} (h : Prm K o) : ∀ n, (∀ p c, p < n → c < K → f' (p * K + c) = f (p * K + o c) ∧ g' (p * K + c) = g (p * K + o c)) → smV f' g' (n * K) = smV f g (n * K)
  | 0, _ => by rw [Nat.zero_mul]; rfl
  | n + 1, hh => by
    rw [Nat.succ_mul, sm_split f' g', sm_split f g, sm_blocks h n fun p c hp hc => hh p c (by omega) hc]
    congr 1
    have e := sm_perm (f := fun j => f (n * K + j)) (g := fun j => g (n * K + j)) h
    rw [← e, sm_list, sm_list]
    congr 1
    refine List.map_congr_left fun c hc => ?_
    have hc := List.mem_range.1 hc
    rw [(hh n c (by omega) hc).1, (hh n c (by omega) hc).2]
/-- Elements whose channels come in another order. -/
def Chn (K : Nat) (o : Nat → Nat) (n : Nat) (x' x : Nat → Int) : Prop := ∀ p c, p < n → c < K → x' (p * K + c) = x (p * K + o c)
theorem md {K p c : Nat} (hc : c < K) : (p * K + c) / K = p ∧ (p * K + c) % K = c := ⟨by rw [Nat.mul_comm, Nat.mul_add_div (by omega), Nat.div_eq_of_lt hc, Nat.add_zero], by rw [Nat.mul_comm, Nat.mul_add_mod, Nat.mod_eq_of_lt hc]⟩
/-- What a window sees, its channels in another order. -/
theorem lk_chn {a b bd : Int} {H V K S : Nat} {o : Nat → Nat} {x' x : Nat → Int} (h : Prm K o) (hx : Chn K o (H * V) x' x) {p c : Nat} (hc : c < K) : lkW a b bd H V K S x' (p * K + c) = lkW a b bd H V K S x (p * K + o c) := by
  have ho := h.lt hc
  unfold lkW
  rw [(md hc).1, (md hc).2, (md ho).1, (md ho).2]
  by_cases hi : Inw a b H V (p / S) (p % S)
  · rw [if_pos hi, if_pos hi]
    refine hx _ c ?_ hc
    obtain ⟨⟨h1, h2⟩, h3, h4⟩ := hi
    generalize (a + ((p / S : Nat) : Int)) = u at h1 h2
    generalize (b + ((p % S : Nat) : Int)) = v at h3 h4
    have e1 : u.toNat < H := by omega
    have e2 : v.toNat < V := by omega
    have m1 : (u.toNat + 1) * V ≤ H * V := Nat.mul_le_mul_right V e1
    rw [Nat.succ_mul] at m1
    omega
  · rw [if_neg hi, if_neg hi]
/-- A layer whose outputs come in another order. -/
theorem ou_order {L M : Ly} {F : Nat} {o : Nat → Nat} {x : Nat → Int} {k : Nat} (hb : L.mb = 0 ∧ M.mb = 0) (hw : ∀ j, j < F → M.ws (k * F + j) = L.ws (o k * F + j)) (hn : ∀ c, c < 8 → M.ns k c = L.ns (o k) c) : ouV M F x k = ouV L F x (o k) := by
  unfold ouV beV
  rw [if_neg (show ¬ 0 < M.mb by omega), if_neg (show ¬ 0 < L.mb by omega), hn 0 (by decide), hn 1 (by decide), hn 2 (by decide), hn 3 (by decide), hn 4 (by decide), hn 5 (by decide), hn 6 (by decide), hn 7 (by decide), sm_congl (g := fun j => L.ws (o k * F + j)) hw]
/-- A layer whose inputs' channels come in another order, its weights too. -/
theorem ou_after {L M : Ly} {n K : Nat} {o : Nat → Nat} {x' x : Nat → Int} {k : Nat} (h : Prm K o) (hm : M.mb = L.mb ∧ M.bs = L.bs ∧ M.ns = L.ns) (hw : ∀ p c, p < n → c < K → M.ws (k * (n * K) + (p * K + c)) = L.ws (k * (n * K) + (p * K + o c))) (hx : ∀ p c, p < n → c < K → x' (p * K + c) = x (p * K + o c)) : ouV M (n * K) x' k = ouV L (n * K) x k := by
  unfold ouV beV
  rw [hm.1, hm.2.1, hm.2.2, sm_blocks (f := fun j => L.ws (k * (n * K) + j)) (g := x) h n fun p c hp hc => ⟨hw p c hp hc, hx p c hp hc⟩]
end Go.Proofs.YtlgjoepeibodkaaGreat.Nn
/- NETWORKS THAT ARE MADE: the walk's pieces: a window and a layer begun. -/
namespace Go.Proofs.YtlgjoepeibodkaaGreat.Nn
open Go.RowKit

/-- The code from region n on, within its sequence; a block by its number. -/
def isReg (n : Nat) : Code → Bool
  | .region id _ _ => id == n
  | _ => false
def isBlk (n : Nat) : Code → Bool
  | .block id _ => id == n
  | _ => false
def fromP (p : Code → Bool) : Code → Option Code
  | .region id ops b => if p (.region id ops b) then some (.region id ops b) else none
  | .seq a b => if p a then some (.seq a b) else match fromP p a with
    | some c => some c
    | none => fromP p b
  | .block _ c => fromP p c
  | .scope c => fromP p c
  | .loop c => fromP p c
  | .cond _ a b => match fromP p a with
    | some c => some c
    | none => fromP p b
  | _ => none
theorem kgo {P : Program} {c : Code} {Q : Exit → Act → World → Prop} {K : Act → World → Prop} {a : Act} {w : World} (h : ∀ a w, c.wp P Q a w → K a w) (h2 : c.wp P Q a w) : K a w := h _ _ h2
def blockOf (n : Nat) : Code → Option Code
  | .seq a b => match blockOf n a with
    | some c => some c
    | none => blockOf n b
  | .block id c => if id = n then some (.block id c) else blockOf n c
  | .scope c => blockOf n c
  | .loop c => blockOf n c
  | .cond _ a b => match blockOf n a with
    | some c => some c
    | none => blockOf n b
  | _ => none
theorem meet_ofD {J K : Act → World → Prop} {Q : Exit → Act → World → Prop} {a : Act} {w : World} (hK : ∀ a' w', Met J a' w' → K a' w') (h : Met J a w) : Exit.then K Q Exit.normal a w := hK _ _ h
theorem kpD8 {V Y : World} {b : Nat} {h v : Int} (h0 : V.cell? ⟨b, 0, none⟩ = some (.int .i64 h)) (h1 : V.cell? ⟨b, 1, none⟩ = some (.int .i64 v)) (hb : Below V.heap.size V Y) : Y.cell? ⟨b, 0, none⟩ = some (.int .i64 h) ∧ Y.cell? ⟨b, 1, none⟩ = some (.int .i64 v) := ⟨keepc hb h0, keepc hb h1⟩
theorem kpD9 {V Y : World} {b : Nat} {r s y x : Int} (h0 : V.cell? ⟨b, 0, none⟩ = some (.int .i64 r)) (h1 : V.cell? ⟨b, 1, none⟩ = some (.int .i64 s)) (h2 : V.cell? ⟨b, 2, none⟩ = some (.int .i64 y)) (h3 : V.cell? ⟨b, 3, none⟩ = some (.int .i64 x)) (h4 : V.cell? ⟨b, 4, none⟩ = some (.int .i64 0)) (h5 : V.cell? ⟨b, 5, none⟩ = some (.int .i64 0)) (h6 : V.cell? ⟨b, 6, none⟩ = some (.int .i64 0)) (h7 : V.cell? ⟨b, 7, none⟩ = some (.int .i64 0)) (hb : Below V.heap.size V Y) :
    Y.cell? ⟨b, 0, none⟩ = some (.int .i64 r) ∧ Y.cell? ⟨b, 1, none⟩ = some (.int .i64 s) ∧ Y.cell? ⟨b, 2, none⟩ = some (.int .i64 y) ∧ Y.cell? ⟨b, 3, none⟩ = some (.int .i64 x) ∧ Y.cell? ⟨b, 4, none⟩ = some (.int .i64 0) ∧ Y.cell? ⟨b, 5, none⟩ = some (.int .i64 0) ∧ Y.cell? ⟨b, 6, none⟩ = some (.int .i64 0) ∧ Y.cell? ⟨b, 7, none⟩ = some (.int .i64 0) := ⟨keepc hb h0, keepc hb h1, keepc hb h2, keepc hb h3, keepc hb h4, keepc hb h5, keepc hb h6, keepc hb h7⟩
attribute [local go_sem ↓] Go.wp_at_zero Go.wp_at_succ
attribute [local go_sem ↓] Go.wp_at_zero Go.wp_at_succ
end Go.Proofs.YtlgjoepeibodkaaGreat.Nn
/- PLAINORDER: the numbers in another order. -/
namespace Go.Proofs.YtlgjoepeibodkaaGreat.Nn
open Go.RowKit

theorem app_it2 {ops : Array Oper} {rest : List Oper} {o : Oper} {a : Act} {Q : Exit → Act → World → Prop} {w : World} (hgd : o.guard = none) (s x : Operand)
    (ho : o.op = .call { callee := .builtin .append, args := #[s, x], argTypes := #[51, 51] }) (base : Nat) (v : Value) (l : List Int) (n : Nat) (hs : a.eval s = v) (hown : w.ownsRow base 3 1 v n (itL l))
    (g : Nat) (y : Int) (cb : Nat) (hx : a.eval x = .slice (some ⟨g, 0, none⟩) 1 cb) (hr : w.cell? ⟨g, 0, none⟩ = some (.int .i64 y)) (hM : n ≤ 1000000000) (hb : base ≤ w.heap.size)
    (h : ∀ v' w', w'.ownsRow base 3 1 v' (n + 1) (itL (l ++ [y])) → w.grownBy w' v.ownBlock → (v'.ownBlock = v.ownBlock ∨ v'.ownBlock = some w.heap.size) → wpList Tryz.prog ops Q rest (a.put o.dst v') w') : wpList Tryz.prog ops Q (o :: rest) a w := by
  obtain ⟨i0, hi, hz0, hz1, hz2⟩ := info_parts info_itT
  refine wpList_append_own_at w hgd s x _ ho base 3 i0 (.int .i64 0) 1 8 und_itT hi hz0 hz1 hz2 rfl (by decide) v n (itL l) hs hown ⟨g, 0, none⟩ 1 cb [.int .i64 y] hx rfl
    (fun j u hu => ?_) (fun u hu => by simp at hu; subst hu; rfl) (by unfold maxLen; omega) (by omega) hb ?_
  · rcases j with _ | j
    · simp at hu; subst hu; exact hr
    · simp at hu
  · intro v' w' h1 h2 _ h3
    exact h v' w' (by rw [itL_snoc]; exact h1) h2 h3
/-- A list of ints that came in. -/
def RI (W : World) (ao : Option Addr) (m : Nat) (f : Nat → Int) : Prop := ∀ k, k < m → ∃ g o, ao = some ⟨g, o, none⟩ ∧ W.cell? ⟨g, o + k, none⟩ = some (.int .i64 (f k))
theorem RI.keep {W X : World} {ao : Option Addr} {m : Nat} {f : Nat → Int} (h : RI W ao m f) (hb : Below W.heap.size W X) : RI X ao m f := fun k hk => by
  obtain ⟨g, o, e, c⟩ := h k hk
  exact ⟨g, o, e, keepc hb c⟩
def itR (n : Nat) : List Int := (List.range n).map fun (k : Nat) => (k : Int)
theorem itR_succ (n : Nat) : itR (n + 1) = itR n ++ [(n : Int)] := by simp [itR, List.range_succ]
theorem itR_len (n : Nat) : (itR n).length = n := by simp [itR]
/-- Two lists that grow apart from one another. -/
def Ap (v1 v2 : Value) : Prop := v1.ownBlock = none ∨ v1.ownBlock ≠ v2.ownBlock
theorem Ap.grow {W : World} {base e s n : Nat} {v1 v2 v2' : Value} {xs : List Value} (h : Ap v1 v2) (own : W.ownsRow base e s v1 n xs) (h3 : v2'.ownBlock = v2.ownBlock ∨ v2'.ownBlock = some W.heap.size) : Ap v1 v2' := by
  rcases h with h | h
  · exact .inl h
  · rcases h3 with e | e
    · exact .inr (by rw [e]; exact h)
    · by_cases hn : v1.ownBlock = none
      · exact .inl hn
      · refine .inr fun e2 => ?_
        rw [e] at e2
        have := (own.lt _ e2).2
        omega
theorem own_len {W : World} {base n : Nat} {v : Value} {l : List Int} (h : W.ownsRow base 3 1 v n (itL l)) : l.length = n := by
  have := h.1
  simp [itL] at this
  omega
theorem own_it {W : World} {base n c : Nat} {a : Option Addr} {l : List Int} (h : W.ownsRow base 3 1 (.slice a n c) n (itL l)) {p : Nat} (hp : p < n) : ∃ g, a = some ⟨g, 0, none⟩ ∧ W.cell? ⟨g, p, none⟩ = some (.int .i64 (l.getD p 0)) := by
  obtain ⟨g, e, -, -, -, hc⟩ := own_cellsS h (by omega)
  refine ⟨g, e, ?_⟩
  have hl := own_len h
  rw [hc p (by omega)]
  unfold itL
  rw [List.getElem?_map, List.getElem?_eq_getElem (by omega)]
  simp [List.getD, List.getElem?_eq_getElem (show p < l.length by omega)]
theorem take_snoc {l : List Int} {j : Nat} (h : j < l.length) : l.take (j + 1) = l.take j ++ [l.getD j 0] := by
  rw [List.take_add_one]
  simp [List.getD, List.getElem?_eq_getElem h]
/-- A list without one of its elements, as it grows. -/
def wo (l : List Int) (k j : Nat) : List Int := (l.take j).eraseIdx k
theorem wo_same {l : List Int} {k : Nat} (h : k < l.length) : wo l k (k + 1) = wo l k k := by
  unfold wo
  have hl : (l.take k).length = k := by rw [List.length_take]; omega
  rw [take_snoc h, List.eraseIdx_append_of_length_le (by omega), hl, Nat.sub_self, List.eraseIdx_of_length_le (l := l.take k) (by omega)]
  simp
theorem er_perm : ∀ (l : List Int) (k : Nat), k < l.length → (l.getD k 0 :: l.eraseIdx k).Perm l
  | [], _, h => absurd h (by simp)
  | x :: l, 0, _ => by simp
  | x :: l, k + 1, h => by
    have ih := er_perm l k (by simpa using h)
    have e : (x :: l).getD (k + 1) 0 = l.getD k 0 := by simp [List.getD]
    rw [e, List.eraseIdx_cons_succ]
    exact (List.Perm.swap _ _ _).trans (ih.cons x)
theorem wo_next {l : List Int} {k j : Nat} (h : j < l.length) (hne : j ≠ k) : wo l k (j + 1) = wo l k j ++ [l.getD j 0] := by
  unfold wo
  rw [take_snoc h]
  by_cases hk : k < j
  · rw [List.eraseIdx_append_of_lt_length (by simp; omega)]
  · rw [List.eraseIdx_of_length_le (by simp; omega), List.eraseIdx_of_length_le (by simp; omega)]
theorem wo_perm {l : List Int} {k r : Nat} (hr : l.length = r) (h : k < r) : (l.getD k 0 :: wo l k r).Perm l := by
  unfold wo
  rw [List.take_of_length_le (by omega)]
  exact er_perm l k (by omega)
theorem wo_len {l : List Int} {k r : Nat} (hr : l.length = r) (h : k < r) : (wo l k r).length = r - 1 := by
  have := (wo_perm hr h).length_eq
  simp at this
  omega
noncomputable def mxB4 : Code := (Tryz.f11.body.bind (blockOf 4)).getD .skip
attribute [local go_sem ↓] Go.wp_at_zero Go.wp_at_succ
set_option maxHeartbeats 12800000 in
set_option maxRecDepth 100000 in
theorem mx_b4 (u0 u1 u2 u3 u4 u6 u7 u8 u12 u13 u14 u15 u16 u17 u18 u19 u20 u21 u22 u23 u24 u25 u26 u27 u28 u29 u30 u31 u32 u33 u34 u35 u36 u37 u38 u39 u40 u41 u42 u43 u44 u45 u46 u47 u48 u49 u50 u51 u52 u53 u54 u55 u56 u57 u58 u59 u60 u61 u62 u63 u64 u65 u66 u67 : Value) (la : Option Addr) (r lc k base : Nat) (l : List Int) (Wi : World) (Q : Exit → Act → World → Prop) (HL : Hid (Wi.ownsRow base 3 1 (.slice la r lc) r (itL l))) (HK : Hid (k < r ∧ r ≤ 4096))
    (hQ : Hid (∀ (X' : World) (ra : Option Addr) (q rc : Nat) (v11 v50 v51 v52 v53 v54 v55 v56 v57 v58 v59 v60 v61 v62 v63 v64 v65 : Value), X'.ownsRow Wi.heap.size 3 1 (.slice ra q rc) q (itL (wo l k r)) → Below Wi.heap.size Wi X' → Q .normal ⟨#[u0, u1, u2, u3, u4, .slice la (r : Nat) lc, u6, u7, u8, .int .i64 (k : Int), .slice ra q rc, v11, u12, u13, u14, u15, u16, u17, u18, u19, u20, u21, u22, u23, u24, u25, u26, u27, u28, u29, u30, u31, u32, u33, u34, u35, u36, u37, u38, u39, u40, u41, u42, u43, u44, u45, u46, u47, u48, u49, v50, v51, v52, v53, v54, v55, v56, v57, v58, v59, v60, v61, v62, v63, v64, v65, u66, u67], []⟩ X')) :
    Code.wp Tryz.prog mxB4 Q ⟨#[u0, u1, u2, u3, u4, .slice la (r : Nat) lc, u6, u7, u8, .int .i64 (k : Int), .slice none 0 0, .int .i64 0, u12, u13, u14, u15, u16, u17, u18, u19, u20, u21, u22, u23, u24, u25, u26, u27, u28, u29, u30, u31, u32, u33, u34, u35, u36, u37, u38, u39, u40, u41, u42, u43, u44, u45, u46, u47, u48, u49, u50, u51, u52, u53, u54, u55, u56, u57, u58, u59, u60, u61, u62, u63, u64, u65, u66, u67], []⟩ Wi := by
  conv => arg 2; whnf
  obtain ⟨hkr, hr4⟩ := HK.out
  have HLN := hid1 (own_len HL.out)
  go_wp2_with fail
  go_loopw [10, 11] (fun s10 s11 wr => ∃ (j q : Nat) (ra : Option Addr) (rc : Nat), j ≤ r ∧ q ≤ j ∧ s11 = .int .i64 j ∧ s10 = .slice ra q rc ∧ Hid (Below Wi.heap.size Wi wr) ∧ Hid (wr.ownsRow Wi.heap.size 3 1 (.slice ra q rc) q (itL (wo l k j)))) (fun _ s11 _ => r - (intOf s11).toNat)
  case atStart => exact ⟨0, 0, none, 0, Nat.zero_le _, Nat.le_refl _, rfl, rfl, hid1 (Below.refl _ _), hid1 (by rw [show wo l k 0 = [] by simp [wo]]; exact World.ownsRow_nil _ _ _ _)⟩
  case round =>
    obtain ⟨j, q, ra, rc, hj, hq, rfl, rfl, HB, HO⟩ := hrel
    have ij0 : (0 : Int) ≤ (j : Int) := by omega
    by_cases hlt : j < r
    · have ilt : (j : Int) < (r : Int) := by omega
      by_cases hjk : j = k
      · have HE := hid1 (show wo l k (j + 1) = wo l k j by rw [hjk]; exact wo_same (by rw [HLN.out]; exact hkr))
        have ijk : ((j : Int) != (k : Int)) = false := by simp [hjk]
        have HJK := hid1 hjk
        clear hjk
        go_wp2_with fail
        exact ⟨⟨j + 1, q, ra, rc, by omega, by omega, by go_num, rfl, HB, hid1 (by rw [HE.out]; exact HO.out)⟩, by simp [intOf]; omega⟩
      · have HE := hid1 (wo_next (l := l) (k := k) (j := j) (by rw [HLN.out]; exact hlt) hjk)
        have ijk : ((j : Int) != (k : Int)) = true := by simp; omega
        obtain ⟨x, hx⟩ : ∃ x, l.getD j 0 = x := ⟨_, rfl⟩
        obtain ⟨g, e, c⟩ := own_it (own_bl HL.out HB.out) hlt
        rw [hx] at c
        have HX := hid1 hx
        subst e
        clear hjk hx
        go_wp2_with (at_builtin; refine app_it2 rfl _ _ rfl Wi.heap.size (.slice ra q rc) (wo l k j) q (by go_simp) (own_bl HO.out (bl_alloc (Below.refl _ _) _)) wr.heap.size x 1 (by go_simp) (by simp [go_sem]) (by omega) (by have := HB.out.size; simp; omega) ?_; intro v3 y3 own3 gr3 _; obtain ⟨a3, c3, rfl⟩ := own_isP own3; have H3 := hid1 own3; have B3 := hid1 (gr_bel gr3 (bl_alloc HB.out _) (fun q hq => (HO.out.lt q hq).1)); clear own3 gr3)
        exact ⟨⟨j + 1, q + 1, a3, c3, by omega, by omega, by go_num, rfl, B3, hid1 (by rw [HE.out, HX.out]; exact H3.out)⟩, by simp [intOf]; omega⟩
    · have ilt : ¬ (j : Int) < (r : Int) := by omega
      have HE := hid1 (show j = r by omega)
      go_wp2_with fail
      exact hQ.out _ ra q rc _ _ _ _ _ _ _ _ _ _ _ _ _ _ _ _ _ (by have := HO.out; rw [HE.out] at this; exact this) HB.out
end Go.Proofs.YtlgjoepeibodkaaGreat.Nn
/- PLAINORDER: mixed. -/
namespace Go.Proofs.YtlgjoepeibodkaaGreat.Nn
open Go.RowKit

attribute [local go_sem ↓] Go.wp_at_zero Go.wp_at_succ
set_option maxHeartbeats 12800000 in
set_option maxRecDepth 100000 in
theorem mixed_any (K : Nat) (hK : K ≤ 4096) (ao : Option Addr) (m cap : Nat) (f : Nat → Int) (w : World) (h : RI w ao m f) :
    Calls Tryz.prog 11 #[.int .i64 (K : Int), .slice ao m cap] w fun e w' => ∃ (a : Option Addr) (c : Nat) (l : List Int), e = .returned (.slice a K c) ∧ w'.ownsRow w.heap.size 3 1 (.slice a K c) K (itL l) ∧ l.Perm (itR K) ∧ Below w.heap.size w w' := by
  have HR := hid1 h
  clear h
  go_enter Tryz.func11, Tryz.ntmps11
  go_wp2_with fail
  go_loopw [5, 6] (fun s5 s6 wr => ∃ (i : Nat) (la : Option Addr) (lc : Nat), i ≤ K ∧ s6 = .int .i64 i ∧ s5 = .slice la i lc ∧ Hid (Below w.heap.size w wr) ∧ Hid (wr.ownsRow w.heap.size 3 1 (.slice la i lc) i (itL (itR i)))) (fun _ s6 _ => K - (intOf s6).toNat)
  case atStart => exact ⟨0, none, 0, Nat.zero_le _, rfl, rfl, hid1 (by first | exact Below.refl _ _ | exact Below.drew (Below.refl _ _)), hid1 (World.ownsRow_nil _ _ _ _)⟩
  case round =>
    obtain ⟨i, la, lc, hi, rfl, rfl, HB, HO⟩ := hrel
    have i0 : (0 : Int) ≤ (i : Int) := by omega
    by_cases hlt : i < K
    · have ilt : (i : Int) < (K : Int) := by omega
      go_wp2_with (at_builtin; refine app_it2 rfl _ _ rfl w.heap.size (.slice la i lc) (itR i) i (by go_simp) (own_bl HO.out (bl_alloc (Below.refl _ _) _)) wr.heap.size (i : Int) 1 (by go_simp) (by simp [go_sem]) (by omega) (by have := HB.out.size; simp; omega) ?_; intro v3 y3 own3 gr3 _; obtain ⟨a3, c3, rfl⟩ := own_isP own3; have H3 := hid1 own3; have B3 := hid1 (gr_bel gr3 (bl_alloc HB.out _) (fun q hq => (HO.out.lt q hq).1)); clear own3 gr3)
      exact ⟨⟨i + 1, a3, c3, by omega, by go_num, rfl, B3, hid1 (by rw [itR_succ]; exact H3.out)⟩, by simp [intOf]; omega⟩
    · have ilt : ¬ (i : Int) < (K : Int) := by omega
      have HE := hid1 (show i = K by omega)
      have HO2 : Hid (wr.ownsRow w.heap.size 3 1 (.slice la i lc) i (itL (itR K))) := hid1 (by have := HO.out; rw [HE.out] at this ⊢; exact this)
      clear HO hlt i0
      go_wp2_with fail
      go_loopw [5, 7, 8] (fun s5 s7 s8 wr => ∃ (i r : Nat) (la oa : Option Addr) (lc oc : Nat) (ll lo : List Int), Hid (i + r = K) ∧ i ≤ 4096 ∧ r ≤ 4096 ∧ s8 = .int .i64 i ∧ s5 = .slice la r lc ∧ s7 = .slice oa i oc ∧ Hid (Below w.heap.size w wr) ∧ Hid (wr.ownsRow w.heap.size 3 1 (.slice la r lc) r (itL ll)) ∧ Hid (wr.ownsRow w.heap.size 3 1 (.slice oa i oc) i (itL lo)) ∧ Hid (Ap (.slice la r lc) (.slice oa i oc)) ∧ Hid ((lo ++ ll).Perm (itR K))) (fun _ _ s8 _ => K - (intOf s8).toNat)
      case atStart => exact ⟨0, i, la, none, lc, 0, itR K, [], hid1 (by have := HE.out; omega), by omega, by omega, rfl, rfl, rfl, HB, HO2, hid1 (World.ownsRow_nil _ _ _ _), hid1 (by
        unfold Ap
        cases la with
        | none => exact .inl rfl
        | some ad =>
          obtain ⟨g, o, s⟩ := ad
          cases hb : (Value.slice (some ⟨g, o, s⟩) i lc).ownBlock with
          | none => exact .inl rfl
          | some q => exact .inr (by intro e; cases e)), hid1 (List.Perm.refl _)⟩
      case round =>
        clear HO2 HE HB hi ilt
        obtain ⟨i, r, la, oa, lc, oc, ll, lo, HIR, hi4, hr4, rfl, rfl, rfl, HB, HOL, HOO, HAP, HPE⟩ := hrel
        have i0 : (0 : Int) ≤ (i : Int) := by omega
        by_cases hr : r = 0
        · have HE := hid1 (show i = K by have := HIR.out; omega)
          have hll : Hid (ll = []) := hid1 (List.length_eq_zero_iff.1 (by rw [own_len HOL.out]; exact hr))
          have irz : ¬ (0 : Int) < (r : Int) := by omega
          clear hr
          go_wp2_with fail
          go_ret
          refine ⟨oa, oc, ?_, lo, ?_, ?_, HB.out⟩
          · rw [← HE.out]; rfl
          · rw [← HE.out]; exact HOO.out
          · have := HPE.out
            rw [hll.out, List.append_nil] at this
            exact this
        · have irz : (0 : Int) < (r : Int) := by omega
          have irn : ¬ (r : Int) = 0 := by omega
          obtain ⟨k, hkr, HC⟩ : ∃ k : Nat, k < r ∧ Hid ((¬ i < m ∧ k = 0) ∨ (i < m ∧ ((f i).tmod r < 0 ∧ (k : Int) = (f i).tmod r + r ∨ ¬ (f i).tmod r < 0 ∧ (k : Int) = (f i).tmod r))) := by
            by_cases him : i < m
            · have hb := tmod_in (f i) r (by omega)
              by_cases ht : (f i).tmod r < 0
              · exact ⟨((f i).tmod r + r).toNat, by omega, hid1 (.inr ⟨him, .inl ⟨ht, by omega⟩⟩)⟩
              · exact ⟨((f i).tmod r).toNat, by omega, hid1 (.inr ⟨him, .inr ⟨ht, by omega⟩⟩)⟩
            · exact ⟨0, by omega, hid1 (.inl ⟨him, rfl⟩)⟩
          go_upto_if 29 with fail
          go_cut [9] (fun s9 wx => s9 = .int .i64 (k : Int) ∧ wx = wr)
          case first =>
            rcases HC.out with ⟨him, hk⟩ | ⟨him, hk⟩
            · have iim : ¬ (i : Int) < (m : Int) := by omega
              subst hk
              go_wp2
              go_meet
              exact ⟨rfl, rfl⟩
            · have iim : (i : Int) < (m : Int) := by omega
              obtain ⟨g, o, e, c⟩ := (HR.out.keep HB.out) i him
              obtain ⟨t, ht⟩ : ∃ t, (f i).tmod r = t := ⟨_, rfl⟩
              have hb := tmod_in (f i) r (by omega)
              rw [ht] at hk hb
              subst e
              generalize f i = y at ht c
              rcases hk with ⟨h1, h2⟩ | ⟨h1, h2⟩
              · have w2 : IntKind.i64.wrap (t + r) = (k : Int) := by rw [IntKind.wrap_i64]; omega
                have w1 : IntKind.i64.wrap t = t := by rw [IntKind.wrap_i64]; omega
                clear h2 hb
                go_wp2
                go_meet
                exact ⟨rfl, rfl⟩
              · have w1 : IntKind.i64.wrap t = t := by rw [IntKind.wrap_i64]; omega
                have h3 : 0 ≤ t := by omega
                have HK2 := hid1 h2
                clear h2 hb h1
                go_wp2
                go_meet
                exact ⟨by rw [HK2.out], rfl⟩
          case rest =>
            clear HC
            obtain ⟨x, hx⟩ : ∃ x, ll.getD k 0 = x := ⟨_, rfl⟩
            obtain ⟨g, e, c⟩ := own_it HOL.out hkr
            rw [hx] at c
            have HX := hid1 hx
            have ik0 : (0 : Int) ≤ (k : Int) := by omega
            have ikr : (k : Int) < (r : Int) := by omega
            subst e
            clear hx
            go_upto_block 4 with (at_builtin; refine app_it2 rfl _ _ rfl w.heap.size (.slice oa i oc) lo i (by go_simp) (own_bl HOO.out (bl_alloc (Below.refl _ _) _)) wr.heap.size x 1 (by go_simp) (by simp [go_sem]) (by omega) (by have := HB.out.size; simp; omega) ?_; intro v3 y3 own3 gr3 hv3; obtain ⟨a3, c3, rfl⟩ := own_isP own3; have H3 := hid1 own3; have B3 := hid1 (gr_bel gr3 (bl_alloc HB.out _) (fun q hq => (HOO.out.lt q hq).1)); have L3 := hid1 ((HOL.out.alloc _).kept gr3 HAP.out); have A3 := hid1 (HAP.out.grow (HOL.out.alloc _) hv3); clear own3 gr3 hv3)
            refine mx_b4 _ _ _ _ _ _ _ _ _ _ _ _ _ _ _ _ _ _ _ _ _ _ _ _ _ _ _ _ _ _ _ _ _ _ _ _ _ _ _ _ _ _ _ _ _ _ _ _ _ _ _ _ _ _ _ _ _ _ _ _ _ _ _ _ (some ⟨g, 0, none⟩) r lc k w.heap.size ll y3 _ L3 (hid1 ⟨hkr, hr4⟩) (hid1 ?_)
            intro X6 ra q rc v11 v50 v51 v52 v53 v54 v55 v56 v57 v58 v59 v60 v61 v62 v63 v64 v65 own6 B6
            have hq : q + 1 = r := by
              have e1 := own_len own6
              rw [wo_len (own_len L3.out) hkr] at e1
              omega
            have HBS : Hid (w.heap.size ≤ y3.heap.size) := hid1 B3.out.size
            have HO6 := hid1 (own6.mono HBS.out)
            have HA6 : Hid (Ap (.slice ra q rc) (.slice a3 (i + 1) c3)) := hid1 (by
              by_cases hn : (Value.slice ra q rc).ownBlock = none
              · exact .inl hn
              · refine .inr fun e2 => ?_
                obtain ⟨z, hz⟩ := Option.ne_none_iff_exists'.1 hn
                have h1 := (own6.lt z hz).1
                rw [hz] at e2
                have h2 := (H3.out.lt z e2.symm).2
                omega)
            have HO7 := hid1 (own_bl H3.out B6)
            have HB7 := hid1 (bl_step B3.out B6)
            have HP7 : Hid ((lo ++ [x] ++ wo ll k r).Perm (itR K)) := hid1 (by
              have h1 := wo_perm (own_len L3.out) hkr
              rw [HX.out] at h1
              rw [List.append_assoc]
              exact ((h1.append_left lo)).trans HPE.out)
            have HQ := hid1 hq
            clear own6 B6 L3 H3 B3 A3 hq c
            go_wp2_with fail
            exact ⟨⟨i + 1, q, ra, a3, rc, c3, wo ll k r, lo ++ [x], hid1 (by have := HIR.out; have := HQ.out; omega), by have := HIR.out; omega, by have := HQ.out; omega, by go_num, rfl, rfl, HB7, HO6, HO7, HA6, HP7⟩, by have := HIR.out; simp [intOf]; omega⟩
end Go.Proofs.YtlgjoepeibodkaaGreat.Nn
/- PLAINORDER: outputs in another order, the mathematics of layers. -/
namespace Go.Proofs.YtlgjoepeibodkaaGreat.Nn
open Go.RowKit

theorem hi_two {x y : Nat → Int} {c d s : Nat} : ∀ {p : Nat}, (∀ j, j ≤ p → x (c + j * s) = y (d + j * s)) → hiV x c s p = hiV y d s p
  | 0, h => by have := h 0 (Nat.le_refl _); rw [Nat.zero_mul, Nat.add_zero, Nat.add_zero] at this; rw [hiV, hiV, this]
  | p + 1, h => by rw [hiV, hiV, hi_two (p := p) fun j hj => h j (by omega), h (p + 1) (Nat.le_refl _)]
/-- The same numbers, but for weights, norms and where they lie. -/
structure SamN (L M : Ly) : Prop where
  kd : M.kd = L.kd
  k : M.k = L.k
  r : M.r = L.r
  s : M.s = L.s
  sy : M.sy = L.sy
  sx : M.sx = L.sx
  t : M.t = L.t
  l : M.l = L.l
  bd : M.bd = L.bd
theorem pl_same {L M : Ly} (h : SamN L M) {H V C S OW : Nat} {x : Nat → Int} {p : Nat} : plW M H V C S OW x p = plW L H V C S OW x p := by
  unfold plW
  rw [h.sy, h.sx, h.t, h.l, h.bd]
/-- The layer whose outputs come in another order. -/
theorem op_order {L M : Ly} {H V C F OW K n : Nat} {o : Nat → Nat} {z : Nat → Int} (hs : SamN L M) (h12 : L.kd = 1 ∨ (L.kd = 2 ∧ n = 1)) (hK : L.k = K) (hp : Prm K o) (hb : L.mb = 0 ∧ M.mb = 0) (hw : ∀ k j, k < K → j < F → M.ws (k * F + j) = L.ws (o k * F + j)) (hn : ∀ k c, k < K → c < 8 → M.ns k c = L.ns (o k) c) : Chn K o n (opN M H V C F OW z) (opN L H V C F OW z) := by
  intro p c hpn hc
  unfold opN
  rw [hs.kd, hs.k, hs.s]
  rcases h12 with h1 | ⟨h2, rfl⟩
  · have ho := hp.lt hc
    rw [if_neg (show ¬ L.kd = 2 by omega), if_neg (show ¬ L.kd = 2 by omega), if_pos h1, if_pos h1, hK]
    show ouV M F (plW M H V C L.s.toNat OW z ((p * K + c) / K)) ((p * K + c) % K) = ouV L F (plW L H V C L.s.toNat OW z ((p * K + o c) / K)) ((p * K + o c) % K)
    rw [(md hc).1, (md hc).2, (md ho).1, (md ho).2, pl_same hs]
    exact ou_order hb (fun j hj => hw c j hc hj) (fun q hq => hn c q hc hq)
  · obtain rfl : p = 0 := by omega
    rw [if_pos h2, if_pos h2, Nat.zero_mul, Nat.zero_add, Nat.zero_add]
    exact ou_order hb (fun j hj => hw c j hc hj) (fun q hq => hn c q hc hq)
/-- A pool between. -/
theorem op_pool {L : Ly} {H V K F OW n : Nat} {o : Nat → Nat} {x' x : Nat → Int} (h3 : L.kd = 3) (hp : Prm K o) (hx : Chn K o (H * V) x' x) : Chn K o n (opN L H V K F OW x') (opN L H V K F OW x) := by
  intro p c _ hc
  have ho := hp.lt hc
  unfold opN
  rw [if_neg (show ¬ L.kd = 2 by omega), if_neg (show ¬ L.kd = 2 by omega), if_neg (show ¬ L.kd = 1 by omega), if_neg (show ¬ L.kd = 1 by omega), (md hc).1, (md hc).2, (md ho).1, (md ho).2]
  refine hi_two fun j _ => ?_
  unfold plW
  rw [Nat.add_comm c, Nat.add_comm (o c)]
  exact lk_chn hp hx hc
/-- The next layer that has weights, these in the order of the channels. -/
theorem op_after {L M : Ly} {H V K OW n : Nat} {o : Nat → Nat} {x' x : Nat → Int} (hs : SamN L M) (h12 : (L.kd = 1 ∧ n = L.r.toNat * L.s.toNat) ∨ (L.kd = 2 ∧ n = H * V)) (hp : Prm K o) (hm : M.mb = L.mb ∧ M.bs = L.bs ∧ M.ns = L.ns) (Ko : Nat) (hw : ∀ k p c, k < Ko → p < n → c < K → M.ws (k * (n * K) + (p * K + c)) = L.ws (k * (n * K) + (p * K + o c))) (hx : Chn K o (H * V) x' x) {j : Nat} (hj : (L.kd = 1 → j % L.k.toNat < Ko) ∧ (L.kd = 2 → j < Ko)) : opN M H V K (n * K) OW x' j = opN L H V K (n * K) OW x j := by
  unfold opN
  rw [hs.kd, hs.k, hs.s]
  rcases h12 with ⟨h1, -⟩ | ⟨h2, hn⟩
  · rw [if_neg (show ¬ L.kd = 2 by omega), if_neg (show ¬ L.kd = 2 by omega), if_pos h1, if_pos h1, pl_same hs]
    refine ou_after hp hm (fun p c h4 h5 => hw _ p c (hj.1 h1) h4 h5) (fun p c _ h5 => ?_)
    unfold plW
    exact lk_chn hp hx h5
  · rw [if_pos h2, if_pos h2]
    exact ou_after hp hm (fun p c h4 h5 => hw _ p c (hj.2 h2) h4 h5) (fun p c h4 h5 => hx p c (by rw [← hn]; exact h4) h5)
end Go.Proofs.YtlgjoepeibodkaaGreat.Nn
/- PLAINORDER: networks whose layers' weights and norms are taken in another order. -/
namespace Go.Proofs.YtlgjoepeibodkaaGreat.Nn
open Go.RowKit

/-- A layer with other weights and norms, elsewhere. -/
abbrev reL (L : Ly) (aw : Option Addr) (cw : Nat) (an : Option Addr) (cn : Nat) (ws : Nat → Int) (ns : Nat → Nat → Int) : Ly := ⟨L.kd, L.wt, L.k, L.r, L.s, L.sy, L.sx, L.t, L.l, L.b, L.q, L.bd, aw, L.mw, cw, an, L.mn, cn, L.ab, L.mb, L.cb, ws, ns, L.bs⟩
/-- They are the layer's own, in any order. -/
structure Tkn (L : Ly) (ws : Nat → Int) (ns : Nat → Nat → Int) : Prop where
  w : ∀ j, j < L.mw → ∃ j', j' < L.mw ∧ ws j = L.ws j'
  n : ∀ j, j < L.mn → ∃ j', j' < L.mn ∧ ∀ c, c < 8 → ns j c = L.ns j' c
section
variable {L : Ly} {S : Sp} {aw an : Option Addr} {cw cn : Nat} {ws : Nat → Int} {ns : Nat → Nat → Int}
theorem nm_re (T : Tkn L ws ns) (h : nmE L = 0) : nmE (reL L aw cw an cn ws ns) = 0 := by
  unfold nmE at h
  have h := zero_else (by decide) h
  refine nmE_ok h.1 (fun j hj => ?_)
  obtain ⟨j', hj', e⟩ := T.n j hj
  have := h.2 j' hj'
  unfold nno at this ⊢
  show noE (ns j 0) (ns j 1) (ns j 2) (ns j 3) (ns j 4) (ns j 5) (ns j 6) (ns j 7) = 0
  rw [e 0 (by decide), e 1 (by decide), e 2 (by decide), e 3 (by decide), e 4 (by decide), e 5 (by decide), e 6 (by decide), e 7 (by decide)]
  exact this
theorem ws_re (T : Tkn L ws ns) (h : wsE L S = 0) : wsE (reL L aw cw an cn ws ns) S = 0 := by
  unfold wsE at h
  have h := zero_else (by decide) h
  refine wsE_ok h.1 (fun j hj => ?_)
  obtain ⟨j', hj', e⟩ := T.w j hj
  show okW L.wt (ws j)
  rw [e]
  exact h.2 j' hj'
theorem en_re (T : Tkn L ws ns) (h : enE L S = 0) : enE (reL L aw cw an cn ws ns) S = 0 := by
  unfold enE at h ⊢
  by_cases hl : S.la = true
  · rw [if_pos hl] at h ⊢; exact h
  · rw [if_neg hl] at h ⊢; exact nm_re T h
theorem fa_re (T : Tkn L ws ns) (h : faE L S = 0) : faE (reL L aw cw an cn ws ns) S = 0 := by
  unfold faE at h ⊢
  by_cases h1 : L.kd = 1
  · rw [if_pos h1] at h
    rw [if_pos (show (reL L aw cw an cn ws ns).kd = 1 from h1)]
    have h := frF_z h
    refine frF_ok fun q hq => ?_
    rcases (show q = 0 ∨ q = 1 ∨ q = 2 ∨ q = 3 ∨ q = 4 ∨ q = 5 ∨ q = 6 ∨ q = 7 ∨ q = 8 ∨ q = 9 by omega) with rfl | rfl | rfl | rfl | rfl | rfl | rfl | rfl | rfl | rfl
    · exact h 0 (by decide)
    · exact h 1 (by decide)
    · exact h 2 (by decide)
    · exact h 3 (by decide)
    · exact h 4 (by decide)
    · exact h 5 (by decide)
    · exact h 6 (by decide)
    · exact ws_re T (h 7 (by decide))
    · first | exact nm_re T (h 8 (by decide)) | exact en_re T (h 8 (by decide))
    · exact h 9 (by decide)
  · rw [if_neg h1] at h
    rw [if_neg (show ¬ (reL L aw cw an cn ws ns).kd = 1 from h1)]
    by_cases h2 : L.kd = 2
    · rw [if_pos h2] at h
      rw [if_pos (show (reL L aw cw an cn ws ns).kd = 2 from h2)]
      have h := frF_z h
      refine frF_ok fun q hq => ?_
      rcases (show q = 0 ∨ q = 1 ∨ q = 2 ∨ q = 3 ∨ q = 4 ∨ q = 5 ∨ q = 6 by omega) with rfl | rfl | rfl | rfl | rfl | rfl | rfl
      · exact h 0 (by decide)
      · exact h 1 (by decide)
      · exact h 2 (by decide)
      · exact h 3 (by decide)
      · first | exact h 4 (by decide) | exact ws_re T (h 4 (by decide))
      · first | exact h 5 (by decide) | exact en_re T (h 5 (by decide)) | exact ws_re T (h 5 (by decide))
      · first | exact h 6 (by decide) | exact en_re T (h 6 (by decide))
    · rw [if_neg h2] at h
      rw [if_neg (show ¬ (reL L aw cw an cn ws ns).kd = 2 from h2)]
      by_cases h3 : L.kd = 3
      · rw [if_pos h3] at h
        rw [if_pos (show (reL L aw cw an cn ws ns).kd = 3 from h3)]
        have h := frF_z h
        refine frF_ok fun q hq => ?_
        rcases (show q = 0 ∨ q = 1 ∨ q = 2 ∨ q = 3 ∨ q = 4 ∨ q = 5 by omega) with rfl | rfl | rfl | rfl | rfl | rfl
        · exact h 0 (by decide)
        · exact h 1 (by decide)
        · exact h 2 (by decide)
        · exact h 3 (by decide)
        · exact h 4 (by decide)
        · exact h 5 (by decide)
      · rw [if_neg h3] at h; cases h
theorem re_sp (N : Nt) (i0 : Nat) (hL : N.lf i0 = L) (ua : Option Addr) (uc : Nat) : ∀ i, sp (wiN N i0 (reL L aw cw an cn ws ns) ua uc) i = sp N i
  | 0 => rfl
  | i + 1 => by
    have ih := re_sp N i0 hL ua uc i
    show (⟨oH (sn N.lf i0 (reL L aw cw an cn ws ns) i) _ _ _, oV (sn N.lf i0 (reL L aw cw an cn ws ns) i) _ _ _, oC (sn N.lf i0 (reL L aw cw an cn ws ns) i) _ _ _, _ + wc (sn N.lf i0 (reL L aw cw an cn ws ns) i) _ _ _, false, _⟩ : Sp) = _
    rw [ih]
    unfold sn
    by_cases h : i = i0
    · subst h
      subst hL
      rw [if_pos rfl]
      rfl
    · rw [if_neg h]
      rfl
theorem re_fan (N : Nt) (i0 : Nat) (hL : N.lf i0 = L) (ua : Option Addr) (uc i : Nat) : fanN (wiN N i0 (reL L aw cw an cn ws ns) ua uc) i = fanN N i := by
  unfold fanN
  rw [re_sp N i0 hL]
  show (fan (sn N.lf i0 (reL L aw cw an cn ws ns) i) _ _ _).toNat = _
  unfold sn
  by_cases h : i = i0
  · subst h
    subst hL
    rw [if_pos rfl]
    rfl
  · rw [if_neg h]
theorem re_ok {N : Nt} (hz : chE N = 0) {i0 : Nat} (hL : N.lf i0 = L) (T : Tkn L ws ns) (ua : Option Addr) (uc : Nat) : chE (wiN N i0 (reL L aw cw an cn ws ns) ua uc) = 0 := by
  obtain ⟨hw0, hf⟩ := fl_all hz
  refine (ch_ok (show whE (wiN N i0 (reL L aw cw an cn ws ns) ua uc) = 0 from hw0) fun j hj => ?_).1
  have hj : j < N.ml := hj
  have h : faE (N.lf j) (sp N j) = 0 := hf j hj
  unfold fl
  rw [re_sp N i0 hL]
  show faE (sn N.lf i0 (reL L aw cw an cn ws ns) j) (sp N j) = 0
  unfold sn
  by_cases h0 : j = i0
  · subst h0
    subst hL
    rw [if_pos rfl]
    exact fa_re T h
  · rw [if_neg h0]
    exact h
end
def orW (ws : Nat → Int) (F : Nat) (o : Nat → Nat) (q : Nat) : Int := ws (o (q / F) * F + q % F)
def orN (ns : Nat → Nat → Int) (o : Nat → Nat) (k c : Nat) : Int := ns (o k) c
def afW (ws : Nat → Int) (K : Nat) (o : Nat → Nat) (q : Nat) : Int := ws (q - q % K + o (q % K))
theorem or_tkn {L : Ly} {K F : Nat} {o : Nat → Nat} (h : Prm K o) (hF : 1 ≤ F) (hw : L.mw = K * F) (hn : L.mn = K) : Tkn L (orW L.ws F o) (orN L.ns o) := by
  refine ⟨fun j hj => ⟨_, ?_, rfl⟩, fun j hj => ⟨o j, by rw [hn]; exact h.lt (by omega), fun _ _ => rfl⟩⟩
  rw [hw] at hj ⊢
  have hq : j / F < K := Nat.div_lt_of_lt_mul (by rw [Nat.mul_comm]; exact hj)
  have h1 := h.lt hq
  have h2 : j % F < F := Nat.mod_lt _ (by omega)
  have h3 : (o (j / F) + 1) * F ≤ K * F := Nat.mul_le_mul_right F h1
  rw [Nat.succ_mul] at h3
  omega
theorem af_lt {K n q : Nat} {o : Nat → Nat} (h : Prm K o) (hK : 1 ≤ K) (hq : q < n * K) : q - q % K + o (q % K) < n * K := by
  have h1 := h.lt (Nat.mod_lt q hK)
  have e : q - q % K = q / K * K := by have := Nat.div_add_mod q K; rw [Nat.mul_comm] at this; omega
  rw [e]
  have hd : q / K < n := Nat.div_lt_of_lt_mul (by rw [Nat.mul_comm]; exact hq)
  have h3 : (q / K + 1) * K ≤ n * K := Nat.mul_le_mul_right K hd
  rw [Nat.succ_mul] at h3
  omega
theorem af_tkn {L : Ly} {K n : Nat} {o : Nat → Nat} (h : Prm K o) (hK : 1 ≤ K) (hw : L.mw = n * K) : Tkn L (afW L.ws K o) L.ns :=
  ⟨fun j hj => ⟨_, by rw [hw] at hj ⊢; exact af_lt h hK hj, rfl⟩, fun j hj => ⟨j, hj, fun _ _ => rfl⟩⟩
theorem af_at {ws : Nat → Int} {K p c : Nat} {o : Nat → Nat} (hc : c < K) : afW ws K o (p * K + c) = ws (p * K + o c) := by
  unfold afW
  rw [(md hc).2]
  congr 1
  omega
theorem or_at {ws : Nat → Int} {F k j : Nat} {o : Nat → Nat} (hj : j < F) : orW ws F o (k * F + j) = ws (o k * F + j) := by
  unfold orW
  rw [(md hj).1, (md hj).2]
/-- Two networks, one with a layer's outputs in another order. -/
structure Ord (N M : Nt) (i j K : Nat) (o : Nat → Nat) : Prop where
  sp : ∀ q, q ≤ N.ml → sp M q = sp N q
  fan : ∀ q, q < N.ml → fanN M q = fanN N q
  lf : ∀ q, q ≠ i → q ≠ j → M.lf q = N.lf q
  ij : i < j ∧ j < N.ml
  pool : ∀ q, i < q → q < j → (N.lf q).kd = 3
  nj : ¬ (N.lf j).kd = 3
  prm : Prm K o
  k : (N.lf i).k = K
  mn : 0 < (N.lf i).mn
  a : ∃ aw cw an cn, M.lf i = reL (N.lf i) aw cw an cn (orW (N.lf i).ws (fanN N i) o) (orN (N.lf i).ns o)
  b : ∃ aw cw an cn, M.lf j = reL (N.lf j) aw cw an cn (afW (N.lf j).ws K o) (N.lf j).ns
theorem nm_kd {N : Nt} (hz : chE N = 0) {i : Nat} (hi : i < N.ml) (hn : 0 < (N.lf i).mn) : ¬ (N.lf i).kd = 3 := fun h3 => by
  have h0 : faE (N.lf i) (sp N i) = 0 := (fl_all hz).2 i hi
  unfold faE at h0
  rw [if_neg (by omega), if_neg (by omega), if_pos h3] at h0
  have h4 : owE (N.lf i) = 0 := frF_z h0 2 (by decide)
  unfold owE at h4
  have := (zero_else (by decide) h4).1
  omega
theorem ord_upto {N M : Nt} {i j K : Nat} {o : Nat → Nat} (R : Ord N M i j K o) (x : Nat → Int) : ∀ q, q ≤ i → valN M x q = valN N x q
  | 0, _ => rfl
  | q + 1, hq => by
    have h1 := R.ij
    rw [valN, valN, ord_upto R x q (by omega), R.lf q (by omega) (by omega), R.sp q (by omega), R.sp (q + 1) (by omega), R.fan q (by omega), show cN M q = cN N q by unfold cN; rw [R.sp q (by omega)]]
theorem ord_c {N M : Nt} {i j K : Nat} {o : Nat → Nat} (hz : chE N = 0) (R : Ord N M i j K o) : ∀ q, i + 1 ≤ q → q ≤ j → (sp N q).c = (K : Int)
  | 0, h, _ => absurd h (by omega)
  | q + 1, h, hj => by
    have h1 := R.ij
    have h0 : faE (N.lf q) (sp N q) = 0 := (fl_all hz).2 q (by omega)
    have hs := sp_all hz q (by omega)
    show oC (N.lf q) (sp N q).h (sp N q).v (sp N q).c = _
    by_cases e : q = i
    · subst e
      rw [(lay_w hs h0 (nm_kd hz (by omega) R.mn)).2.1]
      exact R.k
    · rw [lay_p h0 (R.pool q (by omega) (by omega))]
      exact ord_c hz R q (by omega) (by omega)
/-- From the layer on to the next one with weights the channels come in another order. -/
theorem ord_chn {N M : Nt} {i j K : Nat} {o : Nat → Nat} (hz : chE N = 0) (R : Ord N M i j K o) (x : Nat → Int) : ∀ q, i + 1 ≤ q → q ≤ j → Chn K o ((sp N q).h.toNat * (sp N q).v.toNat) (valN M x q) (valN N x q)
  | 0, h, _ => absurd h (by omega)
  | q + 1, h, hj => by
    have h1 := R.ij
    have h0 : faE (N.lf q) (sp N q) = 0 := (fl_all hz).2 q (by omega)
    have hs := sp_all hz q (by omega)
    rw [valN, valN, R.sp q (by omega), R.sp (q + 1) (by omega), R.fan q (by omega), show cN M q = cN N q by unfold cN; rw [R.sp q (by omega)]]
    by_cases e : q = i
    · subst e
      rw [ord_upto R x q (Nat.le_refl _)]
      obtain ⟨aw, cw, an, cn, ea⟩ := R.a
      have hm := nm_layer hz (show q < N.ml by omega) R.mn
      have hk := (lay_w hs h0 (nm_kd hz (by omega) R.mn)).1
      rw [ea]
      refine op_order ⟨rfl, rfl, rfl, rfl, rfl, rfl, rfl, rfl, rfl⟩ ?_ R.k R.prm ⟨hm.1, hm.1⟩ (fun k t _ ht => or_at ht) (fun k c _ _ => rfl)
      rcases hk with hk | hk
      · exact .inl hk
      · refine .inr ⟨hk, ?_⟩
        show (oH (N.lf q) _ _ _).toNat * (oV (N.lf q) _ _ _).toNat = 1
        unfold oH oV
        rw [if_pos hk, if_pos hk]
        rfl
    · have ih := ord_chn hz R x q (by omega) (by omega)
      have hc := ord_c hz R q (by omega) (by omega)
      rw [R.lf q e (by omega), show cN N q = K by unfold cN; omega]
      exact op_pool (R.pool q (by omega) (by omega)) R.prm ih
/-- Behind that layer all is the same. -/
theorem ord_after {N M : Nt} {i j K : Nat} {o : Nat → Nat} (hz : chE N = 0) (R : Ord N M i j K o) (x : Nat → Int) : ∀ r, r < szN N (j + 1) → valN M x (j + 1) r = valN N x (j + 1) r := by
  intro r hr
  have h1 := R.ij
  have h0 : faE (N.lf j) (sp N j) = 0 := (fl_all hz).2 j h1.2
  have hs := sp_all hz j (by omega)
  have hc := ord_c hz R j (by omega) (Nat.le_refl _)
  have hx := ord_chn hz R x j (by omega) (Nat.le_refl _)
  obtain ⟨hk, hoc, K', F, eK, eF, k1, k2, hmw, f1, -⟩ := lay_w hs h0 R.nj
  obtain ⟨aw, cw, an, cn, eb⟩ := R.b
  obtain ⟨⟨⟨a1, a2⟩, ⟨a3, a4⟩, ⟨a5, a6⟩⟩, -⟩ := hs
  rw [valN, valN, R.sp j (by omega), R.sp (j + 1) (by omega), R.fan j (by omega), show cN M j = cN N j by unfold cN; rw [R.sp j (by omega)], eb, show cN N j = K by unfold cN; omega]
  obtain ⟨n, hn, hfn⟩ : ∃ n, (((N.lf j).kd = 1 ∧ n = (N.lf j).r.toNat * (N.lf j).s.toNat) ∨ ((N.lf j).kd = 2 ∧ n = (sp N j).h.toNat * (sp N j).v.toNat)) ∧ fanN N j = n * K := by
    rcases hk with hk | hk
    · refine ⟨_, .inl ⟨hk, rfl⟩, ?_⟩
      have hwk := fw_bd hz h1.2
      obtain ⟨⟨r1, -⟩, ⟨s1, -⟩⟩ : (1 ≤ (N.lf j).r ∧ True) ∧ (1 ≤ (N.lf j).s ∧ True) := by
        have := hwk.2.2 (by omega)
        exact ⟨⟨by omega, trivial⟩, by omega, trivial⟩
      unfold fanN fan
      rw [if_neg (by omega), hc]
      obtain ⟨a, ea⟩ := Int.eq_ofNat_of_zero_le (show 0 ≤ (N.lf j).r by omega)
      obtain ⟨b, eb⟩ := Int.eq_ofNat_of_zero_le (show 0 ≤ (N.lf j).s by omega)
      rw [ea, eb, ← Int.natCast_mul, ← Int.natCast_mul]
      rfl
    · refine ⟨_, .inr ⟨hk, rfl⟩, ?_⟩
      unfold fanN fan
      rw [if_pos hk, hc]
      obtain ⟨a, ea⟩ := Int.eq_ofNat_of_zero_le (show 0 ≤ (sp N j).h by omega)
      obtain ⟨b, eb⟩ := Int.eq_ofNat_of_zero_le (show 0 ≤ (sp N j).v by omega)
      rw [ea, eb, ← Int.natCast_mul, ← Int.natCast_mul]
      rfl
  rw [hfn]
  refine op_after (L := N.lf j) (M := reL (N.lf j) aw cw an cn (afW (N.lf j).ws K o) (N.lf j).ns) ⟨rfl, rfl, rfl, rfl, rfl, rfl, rfl, rfl, rfl⟩ hn R.prm ⟨rfl, rfl, rfl⟩ (N.lf j).k.toNat (fun k p c _ _ hc' => ?_) hx ⟨fun _ => Nat.mod_lt _ (by omega), fun h2 => ?_⟩
  · show afW (N.lf j).ws K o (k * (n * K) + (p * K + c)) = _
    have e1 : k * (n * K) + (p * K + c) = (k * n + p) * K + c := by rw [Nat.add_mul, Nat.mul_assoc]; omega
    have e2 : k * (n * K) + (p * K + o c) = (k * n + p) * K + o c := by rw [Nat.add_mul, Nat.mul_assoc]; omega
    rw [e1, e2]
    exact af_at hc'
  · have e : szN N (j + 1) = (N.lf j).k.toNat := by
      show (oH (N.lf j) _ _ _).toNat * (oV (N.lf j) _ _ _).toNat * (oC (N.lf j) _ _ _).toNat = _
      rw [hoc]
      unfold oH oV
      rw [if_pos h2, if_pos h2]
      simp
    omega
theorem ord_val {N M : Nt} {i j K : Nat} {o : Nat → Nat} (hz : chE N = 0) (R : Ord N M i j K o) (x : Nat → Int) : ∀ q, q < szN N N.ml → valN M x N.ml q = valN N x N.ml q := by
  have h1 := R.ij
  refine val_from hz (i0 := j + 1) (fun q _ h => R.sp q h) (fun q hq _ => ?_) (fun q _ h => R.fan q h) (ord_after hz R x) N.ml (by omega) (Nat.le_refl _)
  rw [R.lf q (by omega) (by omega)]
  exact ⟨rfl, fun _ _ _ _ _ _ _ => rfl⟩
theorem gr_congr {f g : Nat → Int} : ∀ {n : Nat}, (∀ j, j < n → f j = g j) → grV f n = grV g n
  | 0, _ => rfl
  | n + 1, h => by
    have ih := gr_congr (n := n) fun j hj => h j (by omega)
    have hl := gr_lt g n
    rw [grV, grV, ih, h n (by omega), h (grV g n) (by omega)]
end Go.Proofs.YtlgjoepeibodkaaGreat.Nn
/- PLAINORDER: both networks run. -/
namespace Go.Proofs.YtlgjoepeibodkaaGreat.Nn
open Go.RowKit

def resF (a : Option Addr) (m c : Nat) (z : Int) : Nat → Value := fun i => if i = 0 then .slice a m c else .int .i64 z
theorem res_new (W : World) (a : Option Addr) (m c : Nat) (z : Int) : (W.alloc (.cells #[.slice a m c, .int .i64 z] 54)).rowIs W.heap.size 54 2 (resF a m c z) := ⟨_, new_at rfl _, rfl, fun i hi => by
  rcases (show i = 0 ∨ i = 1 by omega) with rfl | rfl <;> rfl⟩
theorem res_set {W : World} {p m c : Nat} {a : Option Addr} {z : Int} {F : Nat → Value} (h : W.rowIs p 54 2 F) : ((W.setCell ⟨p, 0, none⟩ (.slice a m c)).setCell ⟨p, 1, none⟩ (.int .i64 z)).rowIs p 54 2 (resF a m c z) := by
  refine ((h.set 0 _).set 1 _).congr fun i hi => ?_
  rcases (show i = 0 ∨ i = 1 by omega) with rfl | rfl <;> rfl
theorem kp26 {W Y : World} {b g h : Nat} {N : Nt} {A B : Ly} (h0 : (W.cell? ⟨b, 0, none⟩ = some (.string N.nm) ∧ W.cell? ⟨b, 1, none⟩ = some (.int .i64 N.h) ∧ W.cell? ⟨b, 2, none⟩ = some (.int .i64 N.v) ∧ W.cell? ⟨b, 3, none⟩ = some (.int .i64 N.c) ∧ W.cell? ⟨b, 4, none⟩ = some (.slice N.al N.ml N.cl))) (h1 : Lp W g A) (h2 : Lp W h B) (hb : Below W.heap.size W Y) : (Y.cell? ⟨b, 0, none⟩ = some (.string N.nm) ∧ Y.cell? ⟨b, 1, none⟩ = some (.int .i64 N.h) ∧ Y.cell? ⟨b, 2, none⟩ = some (.int .i64 N.v) ∧ Y.cell? ⟨b, 3, none⟩ = some (.int .i64 N.c) ∧ Y.cell? ⟨b, 4, none⟩ = some (.slice N.al N.ml N.cl)) ∧ (Y.cell? ⟨g, 0, none⟩ = some (.int .i64 A.kd) ∧ Y.cell? ⟨g, 1, none⟩ = some (.int .i64 A.wt) ∧ Y.cell? ⟨g, 2, none⟩ = some (.int .i64 A.k) ∧ Y.cell? ⟨g, 3, none⟩ = some (.int .i64 A.r) ∧ Y.cell? ⟨g, 4, none⟩ = some (.int .i64 A.s) ∧ Y.cell? ⟨g, 5, none⟩ = some (.int .i64 A.sy) ∧ Y.cell? ⟨g, 6, none⟩ = some (.int .i64 A.sx) ∧ Y.cell? ⟨g, 7, none⟩ = some (.int .i64 A.t) ∧ Y.cell? ⟨g, 8, none⟩ = some (.int .i64 A.l) ∧ Y.cell? ⟨g, 9, none⟩ = some (.int .i64 A.b) ∧ Y.cell? ⟨g, 10, none⟩ = some (.int .i64 A.q) ∧ Y.cell? ⟨g, 11, none⟩ = some (.int .i64 A.bd) ∧ Y.cell? ⟨g, 12, none⟩ = some (.slice A.aw A.mw A.cw) ∧ Y.cell? ⟨g, 13, none⟩ = some (.slice A.an A.mn A.cn) ∧ Y.cell? ⟨g, 14, none⟩ = some (.slice A.ab A.mb A.cb)) ∧ (Y.cell? ⟨h, 0, none⟩ = some (.int .i64 B.kd) ∧ Y.cell? ⟨h, 1, none⟩ = some (.int .i64 B.wt) ∧ Y.cell? ⟨h, 2, none⟩ = some (.int .i64 B.k) ∧ Y.cell? ⟨h, 3, none⟩ = some (.int .i64 B.r) ∧ Y.cell? ⟨h, 4, none⟩ = some (.int .i64 B.s) ∧ Y.cell? ⟨h, 5, none⟩ = some (.int .i64 B.sy) ∧ Y.cell? ⟨h, 6, none⟩ = some (.int .i64 B.sx) ∧ Y.cell? ⟨h, 7, none⟩ = some (.int .i64 B.t) ∧ Y.cell? ⟨h, 8, none⟩ = some (.int .i64 B.l) ∧ Y.cell? ⟨h, 9, none⟩ = some (.int .i64 B.b) ∧ Y.cell? ⟨h, 10, none⟩ = some (.int .i64 B.q) ∧ Y.cell? ⟨h, 11, none⟩ = some (.int .i64 B.bd) ∧ Y.cell? ⟨h, 12, none⟩ = some (.slice B.aw B.mw B.cw) ∧ Y.cell? ⟨h, 13, none⟩ = some (.slice B.an B.mn B.cn) ∧ Y.cell? ⟨h, 14, none⟩ = some (.slice B.ab B.mb B.cb)) := by
  obtain ⟨c0, c1, c2, c3, c4⟩ := h0
  exact ⟨⟨keepc hb c0, keepc hb c1, keepc hb c2, keepc hb c3, keepc hb c4⟩, h1.keep hb, h2.keep hb⟩
theorem r64_set {W : World} {g p c m : Nat} {f : Nat → Int} {u : Value} (h : R64 W (some ⟨g, 0, none⟩) m f) (hne : g ≠ p) : R64 (W.setCell ⟨p, c, none⟩ u) (some ⟨g, 0, none⟩) m f := fun k hk => by
  obtain ⟨g', o, e, cc⟩ := h k hk
  cases e
  exact ⟨g, 0, rfl, (World.cell?_of_block (Below.heap_setCell _ _ _ _ (by show g ≠ p; exact hne))).trans cc⟩
theorem r64_keep {W X : World} {a : Option Addr} {m : Nat} {f : Nat → Int} (h : R64 W a m f) (hb : Below W.heap.size W X) : R64 X a m f := fun k hk => by
  obtain ⟨g, o, e, c⟩ := h k hk
  exact ⟨g, o, e, keepc hb c⟩
noncomputable def poR26 : Code := (Tryz.f4.body.bind (regionOf 26)).getD .skip
attribute [local go_sem ↓] Go.wp_at_zero Go.wp_at_succ
set_option maxHeartbeats 12800000 in
set_option maxRecDepth 100000 in
theorem po_r26 (u0 u2 u3 u5 u6 u7 u8 u11 u12 u13 u16 u17 u18 u19 u20 u21 u22 u23 u24 u25 u26 u27 u28 u29 u30 u31 u32 u33 u34 u35 u36 u37 u38 u39 u40 u41 u42 u43 u44 u45 u46 u47 u48 u49 u50 u51 u52 u53 u54 u55 u56 u57 u58 u59 u60 u61 u62 u63 u64 u65 u66 u67 u68 u69 u70 u71 u72 u73 u74 u75 u76 u77 u78 u79 u80 u81 u82 u83 u84 u85 u86 u87 u88 u89 u90 u91 u92 u93 u94 u95 u96 u97 u98 u99 u100 u101 u102 u103 u104 u105 u106 u107 u108 u109 u110 u111 u112 u113 u114 u115 u116 u117 u118 u119 u120 u121 u122 u123 u124 u125 u126 u127 u128 u129 u130 u131 u132 u133 u134 u135 u136 u137 u138 u139 u140 u141 u142 u143 u144 u145 u146 u147 u148 u149 u150 u151 u152 u153 u154 u155 u156 u157 u158 u159 u160 u161 u162 u163 u164 u165 u166 u167 u168 u169 u170 u171 u172 u173 u174 u175 u176 u177 u178 u179 : Value) (b g14 g15 i j mx cx sz : Nat) (ax : Option Addr) (N : Nt) (A B : Ly) (z : Int) (val : Nat → Int) (Z : World) (Q : Exit → Act → World → Prop) (HN : Hid (Z.cell? ⟨b, 0, none⟩ = some (.string N.nm) ∧ Z.cell? ⟨b, 1, none⟩ = some (.int .i64 N.h) ∧ Z.cell? ⟨b, 2, none⟩ = some (.int .i64 N.v) ∧ Z.cell? ⟨b, 3, none⟩ = some (.int .i64 N.c) ∧ Z.cell? ⟨b, 4, none⟩ = some (.slice N.al N.ml N.cl))) (HA : Hid (Lp Z g14 A)) (HB : Hid (Lp Z g15 B))
    (HW1 : Hid (∀ X, Below Z.heap.size Z X → Calls Tryz.prog 9 #[ntv N, .int .i64 (i : Int), lyv A] X fun e w' => ∃ ua uc, e = .returned (ntv (wiN N i A ua uc)) ∧ NtW w' (wiN N i A ua uc) ∧ Below X.heap.size X w'))
    (HW2 : Hid (∀ ua uc X, NtW X (wiN N i A ua uc) → Below Z.heap.size Z X → Calls Tryz.prog 9 #[ntv (wiN N i A ua uc), .int .i64 (j : Int), lyv B] X fun e w' => ∃ ub ud, e = .returned (ntv (wiN (wiN N i A ua uc) j B ub ud)) ∧ NtW w' (wiN (wiN N i A ua uc) j B ub ud) ∧ Below X.heap.size X w'))
    (HR3 : Hid (∀ ua uc ub ud X, NtW X (wiN (wiN N i A ua uc) j B ub ud) → Below Z.heap.size Z X → Calls Tryz.prog 12 #[ntv (wiN (wiN N i A ua uc) j B ub ud), .slice ax mx cx] X fun e w' => ∃ g cp, e = .returned (.tuple #[.agg #[.slice (some ⟨g, 0, none⟩) sz cp, .int .i64 z], .int .i64 0]) ∧ X.heap.size ≤ g ∧ R64 w' (some ⟨g, 0, none⟩) sz val ∧ Below X.heap.size X w'))
    (hQ : Hid (∀ (X : World) (p g c : Nat) (v157 v158 v159 v160 v161 v162 v163 v164 v165 v166 v167 v168 : Value), X.rowIs p 54 2 (resF (some ⟨g, 0, none⟩) sz c z) → R64 X (some ⟨g, 0, none⟩) sz val → Below Z.heap.size Z X → Q .normal ⟨#[u0, .slice ax mx cx, u2, u3, .pointer (some ⟨b, 0, none⟩), u5, u6, u7, u8, .int .i64 (i : Int), .int .i64 (j : Int), u11, u12, u13, .pointer (some ⟨g14, 0, none⟩), .pointer (some ⟨g15, 0, none⟩), u16, u17, u18, u19, u20, .pointer (some ⟨p, 0, none⟩), .int .i64 0, u23, u24, u25, u26, u27, u28, u29, u30, u31, u32, u33, u34, u35, u36, u37, u38, u39, u40, u41, u42, u43, u44, u45, u46, u47, u48, u49, u50, u51, u52, u53, u54, u55, u56, u57, u58, u59, u60, u61, u62, u63, u64, u65, u66, u67, u68, u69, u70, u71, u72, u73, u74, u75, u76, u77, u78, u79, u80, u81, u82, u83, u84, u85, u86, u87, u88, u89, u90, u91, u92, u93, u94, u95, u96, u97, u98, u99, u100, u101, u102, u103, u104, u105, u106, u107, u108, u109, u110, u111, u112, u113, u114, u115, u116, u117, u118, u119, u120, u121, u122, u123, u124, u125, u126, u127, u128, u129, u130, u131, u132, u133, u134, u135, u136, u137, u138, u139, u140, u141, u142, u143, u144, u145, u146, u147, u148, u149, u150, u151, u152, u153, u154, u155, u156, v157, v158, v159, v160, v161, v162, v163, v164, v165, v166, v167, v168, u169, u170, u171, u172, u173, u174, u175, u176, u177, u178, u179], []⟩ X)) :
    Code.wp Tryz.prog poR26 Q ⟨#[u0, .slice ax mx cx, u2, u3, .pointer (some ⟨b, 0, none⟩), u5, u6, u7, u8, .int .i64 (i : Int), .int .i64 (j : Int), u11, u12, u13, .pointer (some ⟨g14, 0, none⟩), .pointer (some ⟨g15, 0, none⟩), u16, u17, u18, u19, u20, u21, u22, u23, u24, u25, u26, u27, u28, u29, u30, u31, u32, u33, u34, u35, u36, u37, u38, u39, u40, u41, u42, u43, u44, u45, u46, u47, u48, u49, u50, u51, u52, u53, u54, u55, u56, u57, u58, u59, u60, u61, u62, u63, u64, u65, u66, u67, u68, u69, u70, u71, u72, u73, u74, u75, u76, u77, u78, u79, u80, u81, u82, u83, u84, u85, u86, u87, u88, u89, u90, u91, u92, u93, u94, u95, u96, u97, u98, u99, u100, u101, u102, u103, u104, u105, u106, u107, u108, u109, u110, u111, u112, u113, u114, u115, u116, u117, u118, u119, u120, u121, u122, u123, u124, u125, u126, u127, u128, u129, u130, u131, u132, u133, u134, u135, u136, u137, u138, u139, u140, u141, u142, u143, u144, u145, u146, u147, u148, u149, u150, u151, u152, u153, u154, u155, u156, u157, u158, u159, u160, u161, u162, u163, u164, u165, u166, u167, u168, u169, u170, u171, u172, u173, u174, u175, u176, u177, u178, u179], []⟩ Z := by
  conv => arg 2; whnf
  have hfo := followsP
  dsimp only [ntv, lyv, wiN] at HW1 HW2 HR3
  refine wp_region_noPanic ?_
  go_region_held3 (fun Y => (Y.cell? ⟨b, 0, none⟩ = some (.string N.nm) ∧ Y.cell? ⟨b, 1, none⟩ = some (.int .i64 N.h) ∧ Y.cell? ⟨b, 2, none⟩ = some (.int .i64 N.v) ∧ Y.cell? ⟨b, 3, none⟩ = some (.int .i64 N.c) ∧ Y.cell? ⟨b, 4, none⟩ = some (.slice N.al N.ml N.cl)) ∧ (Y.cell? ⟨g14, 0, none⟩ = some (.int .i64 A.kd) ∧ Y.cell? ⟨g14, 1, none⟩ = some (.int .i64 A.wt) ∧ Y.cell? ⟨g14, 2, none⟩ = some (.int .i64 A.k) ∧ Y.cell? ⟨g14, 3, none⟩ = some (.int .i64 A.r) ∧ Y.cell? ⟨g14, 4, none⟩ = some (.int .i64 A.s) ∧ Y.cell? ⟨g14, 5, none⟩ = some (.int .i64 A.sy) ∧ Y.cell? ⟨g14, 6, none⟩ = some (.int .i64 A.sx) ∧ Y.cell? ⟨g14, 7, none⟩ = some (.int .i64 A.t) ∧ Y.cell? ⟨g14, 8, none⟩ = some (.int .i64 A.l) ∧ Y.cell? ⟨g14, 9, none⟩ = some (.int .i64 A.b) ∧ Y.cell? ⟨g14, 10, none⟩ = some (.int .i64 A.q) ∧ Y.cell? ⟨g14, 11, none⟩ = some (.int .i64 A.bd) ∧ Y.cell? ⟨g14, 12, none⟩ = some (.slice A.aw A.mw A.cw) ∧ Y.cell? ⟨g14, 13, none⟩ = some (.slice A.an A.mn A.cn) ∧ Y.cell? ⟨g14, 14, none⟩ = some (.slice A.ab A.mb A.cb)) ∧ (Y.cell? ⟨g15, 0, none⟩ = some (.int .i64 B.kd) ∧ Y.cell? ⟨g15, 1, none⟩ = some (.int .i64 B.wt) ∧ Y.cell? ⟨g15, 2, none⟩ = some (.int .i64 B.k) ∧ Y.cell? ⟨g15, 3, none⟩ = some (.int .i64 B.r) ∧ Y.cell? ⟨g15, 4, none⟩ = some (.int .i64 B.s) ∧ Y.cell? ⟨g15, 5, none⟩ = some (.int .i64 B.sy) ∧ Y.cell? ⟨g15, 6, none⟩ = some (.int .i64 B.sx) ∧ Y.cell? ⟨g15, 7, none⟩ = some (.int .i64 B.t) ∧ Y.cell? ⟨g15, 8, none⟩ = some (.int .i64 B.l) ∧ Y.cell? ⟨g15, 9, none⟩ = some (.int .i64 B.b) ∧ Y.cell? ⟨g15, 10, none⟩ = some (.int .i64 B.q) ∧ Y.cell? ⟨g15, 11, none⟩ = some (.int .i64 B.bd) ∧ Y.cell? ⟨g15, 12, none⟩ = some (.slice B.aw B.mw B.cw) ∧ Y.cell? ⟨g15, 13, none⟩ = some (.slice B.an B.mn B.cn) ∧ Y.cell? ⟨g15, 14, none⟩ = some (.slice B.ab B.mb B.cb)))
    (((try dsimp only); (with_reducible refine kp26 (W := Z) HN.out HA.out HB.out ?_); repeat (first | (with_reducible exact Below.refl _ _) | (with_reducible assumption) | (with_reducible refine Below.drew ?_) | (with_reducible refine bl_alloc ?_ _) | (with_reducible refine bl_set ?_ (by first | exact B2.size | exact B1.size | exact Nat.le_refl _) _))))
    (first | (have tst := HNW2; clear tst; with_reducible refine (HR3.out ua uc ub ud (y2.alloc (.cells #[.slice none 0 0, .int .i64 0] 54)) (HNW2.out.keep (by repeat (first | (with_reducible exact Below.refl _ _) | (with_reducible assumption) | (with_reducible refine Below.drew ?_) | (with_reducible refine bl_alloc ?_ _)))) (by repeat (first | (with_reducible exact Below.refl _ _) | (with_reducible assumption) | (with_reducible refine Below.drew ?_) | (with_reducible refine bl_alloc ?_ _)))).mono ?_; rintro e y3 ⟨g3, c3, rfl, hg3, R3, b3⟩; have B3 : Below Z.heap.size Z y3 := bl_step (by repeat (first | (with_reducible exact Below.refl _ _) | (with_reducible assumption) | (with_reducible refine Below.drew ?_) | (with_reducible refine bl_alloc ?_ _))) b3; have VC3 := World.rowIs.of_block (res_new y2 none 0 0 0) (b3.block _ (World.rowIs.lt (res_new y2 none 0 0 0))); have cc0 : y3.cell? _ = some (.slice none 0 0) := VC3.cell (i := 0) (by decide); have cc1 : y3.cell? _ = some (.int .i64 0) := VC3.cell (i := 1) (by decide); have cf0 := VC3.frozen 0; have cf1 := VC3.frozen 1; have HVC3 := hid1 VC3; have HR := hid1 R3; have HG3 := hid1 hg3; clear b3 R3 VC3 hg3) | (have tst := HNW2; clear tst; with_reducible refine (HR3.out ua uc ub ud y2 (HNW2.out.keep (by repeat (first | (with_reducible exact Below.refl _ _) | (with_reducible assumption) | (with_reducible refine Below.drew ?_) | (with_reducible refine bl_alloc ?_ _)))) (by repeat (first | (with_reducible exact Below.refl _ _) | (with_reducible assumption) | (with_reducible refine Below.drew ?_) | (with_reducible refine bl_alloc ?_ _)))).mono ?_; rintro e y3 ⟨g3, c3, rfl, hg3, R3, b3⟩; have B3 : Below Z.heap.size Z y3 := bl_step (by repeat (first | (with_reducible exact Below.refl _ _) | (with_reducible assumption) | (with_reducible refine Below.drew ?_) | (with_reducible refine bl_alloc ?_ _))) b3; (try (have VA3 := World.rowIs.of_block HVA2.out (b3.block _ HVA2.out.lt); have ac0 : y3.cell? _ = some (.slice none 0 0) := VA3.cell (i := 0) (by decide); have ac1 : y3.cell? _ = some (.int .i64 0) := VA3.cell (i := 1) (by decide); have af0 := VA3.frozen 0; have af1 := VA3.frozen 1; have HVA3 := hid1 VA3; have HLA := hid1 HVA2.out.lt; clear VA3)); (try (have VB3 := World.rowIs.of_block HVB2.out (b3.block _ HVB2.out.lt); have bc0 : y3.cell? _ = some (.slice none 0 0) := VB3.cell (i := 0) (by decide); have bc1 : y3.cell? _ = some (.int .i64 0) := VB3.cell (i := 1) (by decide); have bf0 := VB3.frozen 0; have bf1 := VB3.frozen 1; have HVB3 := hid1 VB3; have HLB := hid1 HVB2.out.lt; clear VB3)); have HR := hid1 R3; have HG3 := hid1 hg3; clear b3 R3 hg3) | (have tst := HNW1; clear tst; refine (HW2.out ua uc _ (HNW1.out.keep (by repeat (first | (with_reducible exact Below.refl _ _) | (with_reducible assumption) | (with_reducible refine Below.drew ?_) | (with_reducible refine bl_alloc ?_ _)))) (by repeat (first | (with_reducible exact Below.refl _ _) | (with_reducible assumption) | (with_reducible refine Below.drew ?_) | (with_reducible refine bl_alloc ?_ _)))).mono ?_; rintro e y2 ⟨ub, ud, rfl, NW2, b2⟩; have B2 : Below Z.heap.size Z y2 := bl_step (by repeat (first | (with_reducible exact Below.refl _ _) | (with_reducible assumption) | (with_reducible refine Below.drew ?_) | (with_reducible refine bl_alloc ?_ _))) b2; (try (have VA2 := World.rowIs.of_block HVA.out (b2.block _ HVA.out.lt); have HVA2 := hid1 VA2; clear VA2)); (try (have VB2 := World.rowIs.of_block (res_new y1 none 0 0 0) (b2.block _ (World.rowIs.lt (res_new y1 none 0 0 0))); have HVB2 := hid1 VB2; clear VB2)); have HNW2 := hid1 NW2; clear b2 NW2) | (refine (HW1.out _ (by repeat (first | (with_reducible exact Below.refl _ _) | (with_reducible assumption) | (with_reducible refine Below.drew ?_) | (with_reducible refine bl_alloc ?_ _)))).mono ?_; rintro e y1 ⟨ua, uc, rfl, NW1, b1⟩; have B1 : Below Z.heap.size Z y1 := bl_step (by repeat (first | (with_reducible exact Below.refl _ _) | (with_reducible assumption) | (with_reducible refine Below.drew ?_) | (with_reducible refine bl_alloc ?_ _))) b1; (try (have VA := World.rowIs.of_block (res_new Z none 0 0 0).drew (b1.block _ (World.rowIs.lt (res_new Z none 0 0 0).drew)); have HVA := hid1 VA; clear VA)); have HNW1 := hid1 NW1; clear b1 NW1))
  all_goals (refine NoPanic.normal ?_)
  · exact hQ.out _ y3.heap.size g3 c3 _ _ _ _ _ _ _ _ _ _ _ _ (res_new y3 _ _ _ _) (r64_keep HR.out (bl_alloc (Below.refl _ _) _)) (bl_alloc B3 _)
  · have hne : g3 ≠ y2.heap.size := by have h := HG3.out; simp at h; omega
    exact hQ.out _ y2.heap.size g3 c3 _ _ _ _ _ _ _ _ _ _ _ _ (res_set HVC3.out) (r64_set (r64_set HR.out hne) hne) (bl_set (bl_set B3 B2.size _) B2.size _)
  · have hne : g3 ≠ y1.heap.size := by have h := HG3.out; have := HLB.out; omega
    exact hQ.out _ y1.heap.size g3 c3 _ _ _ _ _ _ _ _ _ _ _ _ (res_set HVB3.out) (r64_set (r64_set HR.out hne) hne) (bl_set (bl_set B3 B1.size _) B1.size _)
  · have hne : g3 ≠ Z.heap.size := by have h := HG3.out; have := HLA.out; omega
    exact hQ.out _ Z.heap.size g3 c3 _ _ _ _ _ _ _ _ _ _ _ _ (res_set HVA3.out) (r64_set (r64_set HR.out hne) hne) (bl_set (bl_set B3 (Nat.le_refl _) _) (Nat.le_refl _) _)
end Go.Proofs.YtlgjoepeibodkaaGreat.Nn
/- PLAINORDER: the layer whose outputs come in another order, made. -/
namespace Go.Proofs.YtlgjoepeibodkaaGreat.Nn
open Go.RowKit

theorem clT_app (a b : Nat) (f : Nat → Value) : clT (a + b) f = clT a f ++ clT b fun t => f (a + t) := by
  unfold clT
  rw [List.range_add, List.map_append, List.map_map]
  rfl
/-- A layer with other lists. -/
abbrev grL (L : Ly) (aw : Option Addr) (mw cw : Nat) (an : Option Addr) (mn cn : Nat) : Ly := ⟨L.kd, L.wt, L.k, L.r, L.s, L.sy, L.sx, L.t, L.l, L.b, L.q, L.bd, aw, mw, cw, an, mn, cn, L.ab, L.mb, L.cb, L.ws, L.ns, L.bs⟩
def nrO (ns : Nat → Nat → Int) (o : Nat → Nat) (x : Nat) : Int := ns (o (x / 8)) (x % 8)
/-- The layer under way. -/
def OrM (W : World) (base g : Nat) (L : Ly) (F : Nat) (o : Nat → Nat) (aw : Option Addr) (mw cw : Nat) (an : Option Addr) (mn cn : Nat) : Prop := W.rowIs g 38 15 (lyf (grL L aw mw cw an mn cn)) ∧ W.ownsRow base 39 1 (.slice aw mw cw) mw (clT mw fun q => .int .i8 (orW L.ws F o q)) ∧ W.ownsRow base 43 8 (.slice an mn cn) mn (clT (mn * 8) fun x => .int .i64 (nrO L.ns o x))
theorem OrM.keep {W X : World} {base g F mw cw mn cn : Nat} {L : Ly} {o : Nat → Nat} {aw an : Option Addr} (h : OrM W base g L F o aw mw cw an mn cn) (hb : Below W.heap.size W X) : OrM X base g L F o aw mw cw an mn cn := ⟨World.rowIs.of_block h.1 (hb.block _ h.1.lt), own_bl h.2.1 hb, own_bl h.2.2 hb⟩
theorem gr_w {W : World} {g mw cw mn cn mw' cw' : Nat} {L : Ly} {aw an aw' : Option Addr} (h : W.rowIs g 38 15 (lyf (grL L aw mw cw an mn cn))) : (W.setCell ⟨g, 12, none⟩ (.slice aw' mw' cw')).rowIs g 38 15 (lyf (grL L aw' mw' cw' an mn cn)) := by
  refine (h.set 12 (.slice aw' mw' cw')).congr fun i hi => ?_
  rcases (show i = 0 ∨ i = 1 ∨ i = 2 ∨ i = 3 ∨ i = 4 ∨ i = 5 ∨ i = 6 ∨ i = 7 ∨ i = 8 ∨ i = 9 ∨ i = 10 ∨ i = 11 ∨ i = 12 ∨ i = 13 ∨ i = 14 by omega) with rfl | rfl | rfl | rfl | rfl | rfl | rfl | rfl | rfl | rfl | rfl | rfl | rfl | rfl | rfl <;> rfl
theorem gr_n {W : World} {g mw cw mn cn mn' cn' : Nat} {L : Ly} {aw an an' : Option Addr} (h : W.rowIs g 38 15 (lyf (grL L aw mw cw an mn cn))) : (W.setCell ⟨g, 13, none⟩ (.slice an' mn' cn')).rowIs g 38 15 (lyf (grL L aw mw cw an' mn' cn')) := by
  refine (h.set 13 (.slice an' mn' cn')).congr fun i hi => ?_
  rcases (show i = 0 ∨ i = 1 ∨ i = 2 ∨ i = 3 ∨ i = 4 ∨ i = 5 ∨ i = 6 ∨ i = 7 ∨ i = 8 ∨ i = 9 ∨ i = 10 ∨ i = 11 ∨ i = 12 ∨ i = 13 ∨ i = 14 by omega) with rfl | rfl | rfl | rfl | rfl | rfl | rfl | rfl | rfl | rfl | rfl | rfl | rfl | rfl | rfl <;> rfl
/-- Weights appended. -/
theorem OrM.addW {W X : World} {base g F mw cw mn cn m2 c2 : Nat} {L : Ly} {o : Nat → Nat} {aw an a2 : Option Addr} (h : OrM W base g L F o aw mw cw an mn cn) (own : X.ownsRow base 39 1 (.slice a2 m2 c2) m2 (clT m2 fun q => .int .i8 (orW L.ws F o q))) (gr : W.grownBy X (Value.slice aw mw cw).ownBlock) : OrM (X.setCell ⟨g, 12, none⟩ (.slice a2 m2 c2)) base g L F o a2 m2 c2 an mn cn := by
  obtain ⟨h1, h2, h3⟩ := h
  have R := World.rowIs.of_block h1 (gr.block g h1.lt (fun e => by first | exact own_ne_row h2 h1 (by decide) g e rfl | exact own_ne_row h2 h1 (by decide) g e.symm rfl))
  refine ⟨gr_w R, own_setNe own (fun q hq => own_ne_row own R (by decide) q hq), own_setNe (h3.kept gr (own_neD h3 h2 (by decide))) (fun q hq => ?_)⟩
  exact own_ne_row (h3.kept gr (own_neD h3 h2 (by decide))) R (by decide) q hq
theorem OrM.addN {W X : World} {base g F mw cw mn cn m2 c2 : Nat} {L : Ly} {o : Nat → Nat} {aw an a2 : Option Addr} (h : OrM W base g L F o aw mw cw an mn cn) (own : X.ownsRow base 43 8 (.slice a2 m2 c2) m2 (clT (m2 * 8) fun x => .int .i64 (nrO L.ns o x))) (gr : W.grownBy X (Value.slice an mn cn).ownBlock) : OrM (X.setCell ⟨g, 13, none⟩ (.slice a2 m2 c2)) base g L F o aw mw cw a2 m2 c2 := by
  obtain ⟨h1, h2, h3⟩ := h
  have R := World.rowIs.of_block h1 (gr.block g h1.lt (fun e => by first | exact own_ne_row h3 h1 (by decide) g e rfl | exact own_ne_row h3 h1 (by decide) g e.symm rfl))
  refine ⟨gr_n R, own_setNe (h2.kept gr (own_neD h2 h3 (by decide))) (fun q hq => ?_), own_setNe own (fun q hq => own_ne_row own R (by decide) q hq)⟩
  exact own_ne_row (h2.kept gr (own_neD h2 h3 (by decide))) R (by decide) q hq
/-- What has not turned: all that lies below, but for the layer's box. -/
structure FrT (base g : Nat) (Z X : World) : Prop where
  block : ∀ k, k < base → k ≠ g → X.heap[k]? = Z.heap[k]?
  below : ∀ a : World, a.heap.size ≤ base → a.heap.size ≤ g → Below a.heap.size a Z → Below a.heap.size a X
  size : Z.heap.size ≤ X.heap.size
theorem FrT.refl (base g : Nat) (Z : World) : FrT base g Z Z := ⟨fun _ _ _ => rfl, fun _ _ _ h => h, Nat.le_refl _⟩
theorem FrT.trans {base g : Nat} {X Y Z : World} (h1 : FrT base g Z Y) (h2 : FrT base g Y X) : FrT base g Z X := ⟨fun k hk hne => (h2.block k hk hne).trans (h1.block k hk hne), fun a ha hg h => h2.below a ha hg (h1.below a ha hg h), Nat.le_trans h1.size h2.size⟩
theorem FrT.grown {base g c : Nat} {Z Zd y : World} {q : Option Nat} (hB : Below Z.heap.size Z Zd) (gr : Zd.grownBy y q) (hq : ∀ p, q = some p → base ≤ p) (hb : base ≤ Z.heap.size) (u : Value) : FrT base g Z (y.setCell ⟨g, c, none⟩ u) := by
  have hs := hB.size
  refine ⟨fun k hk hne => ?_, fun a ha hg h => ?_, ?_⟩
  · rw [Below.heap_setCell _ _ _ _ (by show k ≠ g; exact hne), gr.block k (by omega) (fun e => by have := hq k e.symm; omega)]
    exact hB.block k (by omega)
  · exact bl_set (gr_bel gr (bl_step h hB) (fun p hp => by have := hq p hp; omega)) hg u
  · have := gr.size
    simp
    omega
theorem app_wO {ops : Array Oper} {rest : List Oper} {o : Oper} {a : Act} {Q : Exit → Act → World → Prop} {w : World} (hgd : o.guard = none) (s x : Operand)
    (ho : o.op = .call { callee := .builtin .append, args := #[s, x], argTypes := #[34, 34] }) (base : Nat) (v : Value) (n F : Nat) (f : Nat → Int) (hs : a.eval s = v) (hown : w.ownsRow base 39 1 v n (clT n fun q => .int .i8 (f q))) (g off cb : Nat) (hx : a.eval x = .slice (some ⟨g, off, none⟩) F cb) (hr : ∀ t, t < F → w.cell? ⟨g, off + t, none⟩ = some (.int .i8 (f (n + t)))) (hM : n + F ≤ 16777216) (hb : base ≤ w.heap.size)
    (h : ∀ v' w', w'.ownsRow base 39 1 v' (n + F) (clT (n + F) fun q => .int .i8 (f q)) → w.grownBy w' v.ownBlock → wpList Tryz.prog ops Q rest (a.put o.dst v') w') : wpList Tryz.prog ops Q (o :: rest) a w := by
  obtain ⟨i0, hi, hz0, hz1, hz2⟩ := info_parts info_i8P
  refine wpList_append_own w hgd s x _ ho base 39 i0 _ 1 1 und_i8P hi hz0 hz1 hz2 rfl (by decide) v n _ hs hown ⟨g, off, none⟩ F cb (clT F fun t => .int .i8 (f (n + t))) hx (by rw [clT_len]; omega) (fun j u hu => ?_) (fun u hu => by obtain ⟨j, rfl⟩ := clT_mem hu; rfl) (by unfold maxLen; omega) (by omega) hb ?_
  · obtain ⟨hj, rfl⟩ := clT_get hu
    rw [show (⟨g, off, none⟩ : Addr).add j = ⟨g, off + j, none⟩ by simp [Addr.add]]
    exact hr j hj
  · intro v' w' k1 k2 _
    rw [← clT_app] at k1
    exact h v' w' k1 k2
theorem nr8 (f : Nat → Int) (n : Nat) : clT ((n + 1) * 8) (fun x => .int .i64 (f x)) = clT (n * 8) (fun x => .int .i64 (f x)) ++ [.int .i64 (f (n * 8)), .int .i64 (f (n * 8 + 1)), .int .i64 (f (n * 8 + 2)), .int .i64 (f (n * 8 + 3)), .int .i64 (f (n * 8 + 4)), .int .i64 (f (n * 8 + 5)), .int .i64 (f (n * 8 + 6)), .int .i64 (f (n * 8 + 7))] := by
  rw [Nat.succ_mul, clT_app]
  rfl
theorem step_nO {ops : Array Oper} {o : Oper} {a : Act} {w : World} {K : Act → World → Prop} {Q : Exit → Act → World → Prop} {E : Prop} (hgd : o.guard = none) (s x : Operand)
    (ho : o.op = .call { callee := .builtin .append, args := #[s, x], argTypes := #[35, 35] }) (base : Nat) (v : Value) (n : Nat) (f : Nat → Int) (hs : a.eval s = v) (hown : w.ownsRow base 43 8 v n (clT (n * 8) fun x => .int .i64 (f x)))
    (g : Nat) (cb : Nat) (hx : a.eval x = .slice (some ⟨g, 0, none⟩) 1 cb) (hr : ∀ c, c < 8 → w.cell? ⟨g, c, none⟩ = some (.int .i64 (f (n * 8 + c)))) (hM : n ≤ 100000) (hb : base ≤ w.heap.size)
    (h : ∀ v' w', w'.ownsRow base 43 8 v' (n + 1) (clT ((n + 1) * 8) fun x => .int .i64 (f x)) → w.grownBy w' v.ownBlock → K (a.put o.dst v') w') : if Region.wanted o (yielded ops a.tmps) = true then Oper.wp Tryz.prog o a w K Q else E := by
  have hw : Region.wanted o (yielded ops a.tmps) = true := by simp [Region.wanted, hgd]
  rw [if_pos hw]
  obtain ⟨i0, hi, hz0, hz1, hz2⟩ := info_parts info_nrD
  obtain ⟨v', w', hr2, h2, h3, h4, h5⟩ := run_append_own_at (P := Tryz.prog) w base 35 o.type 43 i0 _ 8 64 und_nrD hi hz0 hz1 hz2 rfl (by decide) v n _ hown ⟨g, 0, none⟩ 1 cb [.int .i64 (f (n * 8)), .int .i64 (f (n * 8 + 1)), .int .i64 (f (n * 8 + 2)), .int .i64 (f (n * 8 + 3)), .int .i64 (f (n * 8 + 4)), .int .i64 (f (n * 8 + 5)), .int .i64 (f (n * 8 + 6)), .int .i64 (f (n * 8 + 7))] rfl
    (fun j u hu => by
      rcases j with _ | _ | _ | _ | _ | _ | _ | _ | j
      · simp at hu; subst hu; exact hr 0 (by decide)
      · simp at hu; subst hu; exact hr 1 (by decide)
      · simp at hu; subst hu; exact hr 2 (by decide)
      · simp at hu; subst hu; exact hr 3 (by decide)
      · simp at hu; subst hu; exact hr 4 (by decide)
      · simp at hu; subst hu; exact hr 5 (by decide)
      · simp at hu; subst hu; exact hr 6 (by decide)
      · simp at hu; subst hu; exact hr 7 (by decide)
      · simp at hu) (fun u hu => by simp at hu; rcases hu with rfl | rfl | rfl | rfl | rfl | rfl | rfl | rfl <;> rfl) (by unfold maxLen; omega) (by omega) hb
  unfold Oper.wp execOp
  simp only [ho, resolve, invoke, builtin, Sem.run_bind, Sem.run_pure, Result.andThen_ok, List.map_toArray, List.map_cons, List.map_nil, hs, hx, hr2]
  exact h v' w' (by rw [nr8]; exact h2) h3
noncomputable def poR18 : Code := (Tryz.f4.body.bind (regionOf 18)).getD .skip
noncomputable def poR19 : Code := (Tryz.f4.body.bind (regionOf 19)).getD .skip
attribute [local go_sem ↓] Go.wp_at_zero Go.wp_at_succ
set_option maxHeartbeats 12800000 in
set_option maxRecDepth 100000 in
theorem po_r18 (u0 u1 u2 u3 u4 u5 u6 u7 u8 u9 u10 u12 u15 u18 u19 u20 u21 u22 u23 u24 u25 u26 u27 u28 u29 u30 u31 u32 u33 u34 u35 u36 u37 u38 u39 u40 u41 u42 u43 u44 u45 u46 u47 u48 u49 u50 u51 u52 u53 u54 u55 u56 u57 u58 u59 u60 u61 u62 u63 u64 u65 u66 u67 u68 u69 u70 u71 u72 u73 u74 u75 u76 u77 u78 u79 u80 u81 u82 u83 u84 u85 u86 u87 u88 u89 u90 u91 u92 u93 u94 u95 u96 u97 u98 u99 u100 u101 u102 u103 u104 u105 u106 u107 u108 u109 u110 u111 u112 u113 u114 u115 u116 u117 u118 u119 u120 u121 u122 u123 u124 u125 u126 u127 u128 u129 u130 u131 u132 u133 u134 u135 u136 u137 u138 u139 u140 u141 u142 u143 u144 u145 u146 u147 u148 u149 u150 u151 u152 u153 u154 u155 u156 u157 u158 u159 u160 u161 u162 u163 u164 u165 u166 u167 u168 u169 u170 u171 u172 u173 u174 u175 u176 u177 u178 u179 : Value) (g11 g14 go oc K F k base mw cw mn cn : Nat) (L : Ly) (o : Nat → Nat) (aw an : Option Addr) (Z : World) (Q : Exit → Act → World → Prop) (HM : Hid (OrM Z base g14 L F o aw mw cw an mn cn)) (HL : Hid (Z.cell? ⟨g11, 12, none⟩ = some (.slice L.aw L.mw L.cw))) (HW : Hid (Wts Z L)) (HO : Hid (Z.cell? ⟨go, k, none⟩ = some (.int .i64 ((o k : Nat) : Int)))) (HK : Hid ((k < K ∧ o k < K ∧ 1 ≤ F ∧ K ≤ 4096) ∧ (L.mw = K * F ∧ L.mw ≤ 16777216 ∧ mw = k * F ∧ L.mw ≤ L.cw) ∧ base ≤ Z.heap.size))
    (hQ : Hid (∀ (X : World) (a2 : Option Addr) (c2 : Nat) (v85 v86 v87 v88 v89 v90 v91 v92 v93 v94 v95 v96 v97 v98 v99 v100 v101 v102 v103 v104 : Value), OrM X base g14 L F o a2 (mw + F) c2 an mn cn → FrT base g14 Z X → Q .normal ⟨#[u0, u1, u2, u3, u4, u5, u6, u7, u8, u9, u10, .pointer (some ⟨g11, 0, none⟩), u12, .slice (some ⟨go, 0, none⟩) K oc, .pointer (some ⟨g14, 0, none⟩), u15, .int .i64 (F : Int), .int .i64 (k : Int), u18, u19, u20, u21, u22, u23, u24, u25, u26, u27, u28, u29, u30, u31, u32, u33, u34, u35, u36, u37, u38, u39, u40, u41, u42, u43, u44, u45, u46, u47, u48, u49, u50, u51, u52, u53, u54, u55, u56, u57, u58, u59, u60, u61, u62, u63, u64, u65, u66, u67, u68, u69, u70, u71, u72, u73, u74, u75, u76, u77, u78, u79, u80, u81, u82, u83, u84, v85, v86, v87, v88, v89, v90, v91, v92, v93, v94, v95, v96, v97, v98, v99, v100, v101, v102, v103, v104, u105, u106, u107, u108, u109, u110, u111, u112, u113, u114, u115, u116, u117, u118, u119, u120, u121, u122, u123, u124, u125, u126, u127, u128, u129, u130, u131, u132, u133, u134, u135, u136, u137, u138, u139, u140, u141, u142, u143, u144, u145, u146, u147, u148, u149, u150, u151, u152, u153, u154, u155, u156, u157, u158, u159, u160, u161, u162, u163, u164, u165, u166, u167, u168, u169, u170, u171, u172, u173, u174, u175, u176, u177, u178, u179], []⟩ X)) :
    Code.wp Tryz.prog poR18 Q ⟨#[u0, u1, u2, u3, u4, u5, u6, u7, u8, u9, u10, .pointer (some ⟨g11, 0, none⟩), u12, .slice (some ⟨go, 0, none⟩) K oc, .pointer (some ⟨g14, 0, none⟩), u15, .int .i64 (F : Int), .int .i64 (k : Int), u18, u19, u20, u21, u22, u23, u24, u25, u26, u27, u28, u29, u30, u31, u32, u33, u34, u35, u36, u37, u38, u39, u40, u41, u42, u43, u44, u45, u46, u47, u48, u49, u50, u51, u52, u53, u54, u55, u56, u57, u58, u59, u60, u61, u62, u63, u64, u65, u66, u67, u68, u69, u70, u71, u72, u73, u74, u75, u76, u77, u78, u79, u80, u81, u82, u83, u84, u85, u86, u87, u88, u89, u90, u91, u92, u93, u94, u95, u96, u97, u98, u99, u100, u101, u102, u103, u104, u105, u106, u107, u108, u109, u110, u111, u112, u113, u114, u115, u116, u117, u118, u119, u120, u121, u122, u123, u124, u125, u126, u127, u128, u129, u130, u131, u132, u133, u134, u135, u136, u137, u138, u139, u140, u141, u142, u143, u144, u145, u146, u147, u148, u149, u150, u151, u152, u153, u154, u155, u156, u157, u158, u159, u160, u161, u162, u163, u164, u165, u166, u167, u168, u169, u170, u171, u172, u173, u174, u175, u176, u177, u178, u179], []⟩ Z := by
  conv => arg 2; whnf
  obtain ⟨⟨k1, k2, k3, k4⟩, ⟨k5, k6, k7, k8⟩, k9⟩ := HK.out
  obtain ⟨ok, hok⟩ : ∃ ok, o k = ok := ⟨_, rfl⟩
  obtain ⟨lo, hlo⟩ : ∃ lo, lo = ok * F := ⟨_, rfl⟩
  obtain ⟨hi, hhi⟩ : ∃ hi, hi = lo + F := ⟨_, rfl⟩
  have hb1 : hi ≤ L.mw := by
    rw [hhi, hlo, k5, ← Nat.succ_mul]
    exact Nat.mul_le_mul_right F (by omega)
  have hb2 : mw + F ≤ 16777216 := by
    have : (k + 1) * F ≤ K * F := Nat.mul_le_mul_right F k1
    rw [Nat.succ_mul] at this
    omega
  have HK2 := hid1 (And.intro hb2 k9)
  obtain ⟨gw, ow, eaw, -⟩ := HW.out 0 (by omega)
  have HCL : Hid (∀ t, t < F → Z.drew.cell? ⟨gw, ow + lo + t, none⟩ = some (.int .i8 (orW L.ws F o (mw + t)))) := hid1 (fun t ht => by
    obtain ⟨g2, o2, e2, c⟩ := HW.out (lo + t) (by omega)
    rw [eaw] at e2
    cases e2
    rw [k7, or_at ht, hok, ← hlo, Nat.add_assoc]
    exact c)
  have cL : Z.cell? ⟨g11, 12, none⟩ = some (.slice (some ⟨gw, ow, none⟩) L.mw L.cw) := by rw [← eaw]; exact HL.out
  have cO : Z.cell? ⟨go, k, none⟩ = some (.int .i64 (ok : Int)) := by rw [← hok]; exact HO.out
  have cA : Z.cell? ⟨g14, 12, none⟩ = some (.slice aw mw cw) := HM.out.1.cell (i := 12) (by decide)
  have ik0 : (0 : Int) ≤ (k : Int) := by omega
  have ikK : (k : Int) < (K : Int) := by omega
  have w1 : IntKind.i64.wrap ((ok : Int) * (F : Int)) = (lo : Int) := by rw [← Int.natCast_mul, ← hlo, IntKind.wrap_i64]; omega
  have w2 : IntKind.i64.wrap ((ok : Int) + 1) = (ok : Int) + 1 := by rw [IntKind.wrap_i64]; omega
  have w3 : IntKind.i64.wrap (((ok : Int) + 1) * (F : Int)) = (hi : Int) := by rw [Int.add_mul, Int.one_mul, ← Int.natCast_mul, ← hlo, IntKind.wrap_i64]; omega
  have iA : (lo : Int) ≤ (hi : Int) := by omega
  have iB : (hi : Int) ≤ (L.mw : Int) := by omega
  have iC : (hi : Int) ≤ (L.cw : Int) := by omega
  have i0 : (0 : Int) ≤ (lo : Int) := by omega
  have i1 : (0 : Int) ≤ (hi : Int) := by omega
  have eBA : hi - lo = F := by omega
  have hne : ¬ L.cw = lo := by omega
  clear hok hlo hhi hb1 hb2 k5 k7 eaw k1 k2 k8 k9
  refine still_tailP 18 (by decide +kernel) ?_
  simp only [List.take_succ_cons, List.take_zero, List.drop_succ_cons, List.drop_zero]
  repeat still_step
  refine wpStill_nil ?_
  go_wp2_with (at_builtin; refine app_wO rfl _ _ rfl base (.slice aw mw cw) mw F (orW L.ws F o) (by go_simp) (own_bl HM.out.2.1 (Below.drew (Below.refl _ _))) gw (ow + lo) (L.cw - lo) (by go_simp) HCL.out (by have := HK2.out; omega) (by have := HK2.out; simp; omega) ?_; intro v3 y3 own3 gr3; obtain ⟨a3, c3, rfl⟩ := own_isP own3; have HO3 := hid1 own3; have HG3 := hid1 gr3; have R3 := World.rowIs.of_block (HM.out.1).drew (gr3.block g14 HM.out.1.lt (fun e => own_ne_row HM.out.2.1 HM.out.1 (by decide) g14 e.symm rfl)); have m12 : y3.cell? ⟨g14, 12, none⟩ = some (.slice aw mw cw) := R3.cell (i := 12) (by decide); have f12 := R3.frozen 12; clear own3 gr3 R3)
  exact hQ.out _ a3 c3 _ _ _ _ _ _ _ _ _ _ _ _ _ _ _ _ _ _ _ _ (OrM.addW (HM.out.keep (Below.drew (Below.refl _ _))) HO3.out HG3.out) (FrT.grown (Below.drew (Below.refl _ _)) HG3.out (fun p hp => (HM.out.2.1.lt p hp).1) HK2.out.2 _)
attribute [local go_sem ↓] Go.wp_at_zero Go.wp_at_succ
set_option maxHeartbeats 12800000 in
set_option maxRecDepth 100000 in
theorem po_r19 (u0 u1 u2 u3 u4 u5 u6 u7 u8 u9 u10 u12 u15 u18 u19 u20 u21 u22 u23 u24 u25 u26 u27 u28 u29 u30 u31 u32 u33 u34 u35 u36 u37 u38 u39 u40 u41 u42 u43 u44 u45 u46 u47 u48 u49 u50 u51 u52 u53 u54 u55 u56 u57 u58 u59 u60 u61 u62 u63 u64 u65 u66 u67 u68 u69 u70 u71 u72 u73 u74 u75 u76 u77 u78 u79 u80 u81 u82 u83 u84 u85 u86 u87 u88 u89 u90 u91 u92 u93 u94 u95 u96 u97 u98 u99 u100 u101 u102 u103 u104 u105 u106 u107 u108 u109 u110 u111 u112 u113 u114 u115 u116 u117 u118 u119 u120 u121 u122 u123 u124 u125 u126 u127 u128 u129 u130 u131 u132 u133 u134 u135 u136 u137 u138 u139 u140 u141 u142 u143 u144 u145 u146 u147 u148 u149 u150 u151 u152 u153 u154 u155 u156 u157 u158 u159 u160 u161 u162 u163 u164 u165 u166 u167 u168 u169 u170 u171 u172 u173 u174 u175 u176 u177 u178 u179 : Value) (g11 g14 go oc K F k base mw cw mn cn : Nat) (L : Ly) (o : Nat → Nat) (aw an : Option Addr) (Z : World) (Q : Exit → Act → World → Prop) (HM : Hid (OrM Z base g14 L F o aw mw cw an mn cn)) (HL : Hid (Z.cell? ⟨g11, 13, none⟩ = some (.slice L.an L.mn L.cn))) (HW : Hid (Nms Z L)) (HO : Hid (Z.cell? ⟨go, k, none⟩ = some (.int .i64 ((o k : Nat) : Int)))) (HK : Hid ((k < K ∧ o k < K ∧ K ≤ 4096) ∧ L.mn = K ∧ mn = k ∧ base ≤ Z.heap.size))
    (hQ : Hid (∀ (X : World) (a2 : Option Addr) (c2 : Nat) (v105 v106 v107 v108 v109 v110 v111 v112 v113 v114 v115 v116 v117 : Value), OrM X base g14 L F o aw mw cw a2 (mn + 1) c2 → FrT base g14 Z X → Q .normal ⟨#[u0, u1, u2, u3, u4, u5, u6, u7, u8, u9, u10, .pointer (some ⟨g11, 0, none⟩), u12, .slice (some ⟨go, 0, none⟩) K oc, .pointer (some ⟨g14, 0, none⟩), u15, .int .i64 (F : Int), .int .i64 (k : Int), u18, u19, u20, u21, u22, u23, u24, u25, u26, u27, u28, u29, u30, u31, u32, u33, u34, u35, u36, u37, u38, u39, u40, u41, u42, u43, u44, u45, u46, u47, u48, u49, u50, u51, u52, u53, u54, u55, u56, u57, u58, u59, u60, u61, u62, u63, u64, u65, u66, u67, u68, u69, u70, u71, u72, u73, u74, u75, u76, u77, u78, u79, u80, u81, u82, u83, u84, u85, u86, u87, u88, u89, u90, u91, u92, u93, u94, u95, u96, u97, u98, u99, u100, u101, u102, u103, u104, v105, v106, v107, v108, v109, v110, v111, v112, v113, v114, v115, v116, v117, u118, u119, u120, u121, u122, u123, u124, u125, u126, u127, u128, u129, u130, u131, u132, u133, u134, u135, u136, u137, u138, u139, u140, u141, u142, u143, u144, u145, u146, u147, u148, u149, u150, u151, u152, u153, u154, u155, u156, u157, u158, u159, u160, u161, u162, u163, u164, u165, u166, u167, u168, u169, u170, u171, u172, u173, u174, u175, u176, u177, u178, u179], []⟩ X)) :
    Code.wp Tryz.prog poR19 Q ⟨#[u0, u1, u2, u3, u4, u5, u6, u7, u8, u9, u10, .pointer (some ⟨g11, 0, none⟩), u12, .slice (some ⟨go, 0, none⟩) K oc, .pointer (some ⟨g14, 0, none⟩), u15, .int .i64 (F : Int), .int .i64 (k : Int), u18, u19, u20, u21, u22, u23, u24, u25, u26, u27, u28, u29, u30, u31, u32, u33, u34, u35, u36, u37, u38, u39, u40, u41, u42, u43, u44, u45, u46, u47, u48, u49, u50, u51, u52, u53, u54, u55, u56, u57, u58, u59, u60, u61, u62, u63, u64, u65, u66, u67, u68, u69, u70, u71, u72, u73, u74, u75, u76, u77, u78, u79, u80, u81, u82, u83, u84, u85, u86, u87, u88, u89, u90, u91, u92, u93, u94, u95, u96, u97, u98, u99, u100, u101, u102, u103, u104, u105, u106, u107, u108, u109, u110, u111, u112, u113, u114, u115, u116, u117, u118, u119, u120, u121, u122, u123, u124, u125, u126, u127, u128, u129, u130, u131, u132, u133, u134, u135, u136, u137, u138, u139, u140, u141, u142, u143, u144, u145, u146, u147, u148, u149, u150, u151, u152, u153, u154, u155, u156, u157, u158, u159, u160, u161, u162, u163, u164, u165, u166, u167, u168, u169, u170, u171, u172, u173, u174, u175, u176, u177, u178, u179], []⟩ Z := by
  conv => arg 2; whnf
  obtain ⟨⟨k1, k2, k4⟩, k5, k7, k9⟩ := HK.out
  obtain ⟨ok, hok⟩ : ∃ ok, o k = ok := ⟨_, rfl⟩
  have HK2 := hid1 k9
  obtain ⟨gn, on, ean, d0, d1, d2, d3, d4, d5, d6, d7⟩ := HW.out ok (by omega)
  have HN8 : Hid ((nrO L.ns o (mn * 8) = L.ns ok 0 ∧ nrO L.ns o (mn * 8 + 1) = L.ns ok 1 ∧ nrO L.ns o (mn * 8 + 2) = L.ns ok 2 ∧ nrO L.ns o (mn * 8 + 3) = L.ns ok 3) ∧ nrO L.ns o (mn * 8 + 4) = L.ns ok 4 ∧ nrO L.ns o (mn * 8 + 5) = L.ns ok 5 ∧ nrO L.ns o (mn * 8 + 6) = L.ns ok 6 ∧ nrO L.ns o (mn * 8 + 7) = L.ns ok 7) := hid1 (by
    have key : ∀ c, c < 8 → nrO L.ns o (mn * 8 + c) = L.ns ok c := fun c hc => by
      unfold nrO
      rw [show (mn * 8 + c) / 8 = mn by omega, show (mn * 8 + c) % 8 = c by omega, k7, hok]
    exact ⟨⟨key 0 (by decide), key 1 (by decide), key 2 (by decide), key 3 (by decide)⟩, key 4 (by decide), key 5 (by decide), key 6 (by decide), key 7 (by decide)⟩)
  have cL : Z.cell? ⟨g11, 13, none⟩ = some (.slice (some ⟨gn, on, none⟩) L.mn L.cn) := by rw [← ean]; exact HL.out
  have cO : Z.cell? ⟨go, k, none⟩ = some (.int .i64 (ok : Int)) := by rw [← hok]; exact HO.out
  have cA : Z.cell? ⟨g14, 13, none⟩ = some (.slice an mn cn) := HM.out.1.cell (i := 13) (by decide)
  have ik0 : (0 : Int) ≤ (k : Int) := by omega
  have ikK : (k : Int) < (K : Int) := by omega
  have io0 : (0 : Int) ≤ (ok : Int) := by omega
  have ioK : (ok : Int) < (L.mn : Int) := by omega
  have hmn : mn ≤ 100000 := by omega
  have l1 : g14 < Z.heap.size := HM.out.1.lt
  have l2 : g11 < Z.heap.size := lt_of_cell cL
  have l3 : go < Z.heap.size := lt_of_cell cO
  have l4 : gn < Z.heap.size := lt_of_cell d0
  generalize L.ns ok 0 = y0 at *
  generalize L.ns ok 1 = y1 at *
  generalize L.ns ok 2 = y2 at *
  generalize L.ns ok 3 = y3 at *
  generalize L.ns ok 4 = y4 at *
  generalize L.ns ok 5 = y5 at *
  generalize L.ns ok 6 = y6 at *
  generalize L.ns ok 7 = y7 at *
  have hfo := followsP
  clear hok k5 k7 ean k1 k2 k9 k4
  refine wp_region_noPanic ?_
  go_region_law (refine step_nO rfl (.tmp 106) (.tmp 115) rfl base (.slice an mn cn) mn (nrO L.ns o) (by go_simp) (own_bl HM.out.2.2 (by repeat (first | (with_reducible exact Below.refl _ _) | (with_reducible refine Below.drew ?_) | (with_reducible refine bl_alloc ?_ _)))) Z.heap.size 1 (by go_simp) (fun c hc => by rcases (show c = 0 ∨ c = 1 ∨ c = 2 ∨ c = 3 ∨ c = 4 ∨ c = 5 ∨ c = 6 ∨ c = 7 by omega) with rfl | rfl | rfl | rfl | rfl | rfl | rfl | rfl <;> simp [go_sem, HN8.out]) (by omega) (by have := HK2.out; simp; omega) ?_; intro v3 y3 own3 gr3; obtain ⟨a3, c3, rfl⟩ := own_isP own3; have HO3 := hid1 own3; have HG3 := hid1 gr3; have R3 := World.rowIs.of_block (World.rowIs.of_block HM.out.1 ((show Below Z.heap.size Z _ by repeat (first | (with_reducible exact Below.refl _ _) | (with_reducible refine Below.drew ?_) | (with_reducible refine bl_alloc ?_ _))).block g14 HM.out.1.lt)) (gr3.block g14 (by have := HM.out.1.lt; simp; omega) (fun e => own_ne_row HM.out.2.2 HM.out.1 (by decide) g14 e.symm rfl)); have m13 : y3.cell? ⟨g14, 13, none⟩ = some (.slice an mn cn) := R3.cell (i := 13) (by decide); have f13 := R3.frozen 13; clear own3 gr3 R3)
  all_goals (refine NoPanic.normal ?_)
  all_goals (exact hQ.out _ a3 c3 _ _ _ _ _ _ _ _ _ _ _ _ _ (OrM.addN (HM.out.keep (by repeat (first | (with_reducible exact Below.refl _ _) | (with_reducible refine Below.drew ?_) | (with_reducible refine bl_alloc ?_ _)))) HO3.out HG3.out) (FrT.grown (by repeat (first | (with_reducible exact Below.refl _ _) | (with_reducible refine Below.drew ?_) | (with_reducible refine bl_alloc ?_ _))) HG3.out (fun p hp => (HM.out.2.2.lt p hp).1) HK2.out _))
end Go.Proofs.YtlgjoepeibodkaaGreat.Nn
/- PLAINORDER: the loop that lays the outputs in another order. -/
namespace Go.Proofs.YtlgjoepeibodkaaGreat.Nn
open Go.RowKit

theorem FrT.cell {base g b j : Nat} {Z X : World} {v : Value} (h : FrT base g Z X) (hb : b < base) (hne : b ≠ g) (c : Z.cell? ⟨b, j, none⟩ = some v) : X.cell? ⟨b, j, none⟩ = some v := (World.cell?_of_block (h.block b hb hne)).trans c
theorem FrT.row {base g b t n : Nat} {F : Nat → Value} {Z X : World} (h : FrT base g Z X) (hb : b < base) (hne : b ≠ g) (r : Z.rowIs b t n F) : X.rowIs b t n F := World.rowIs.of_block r (h.block b hb hne)
noncomputable def poB2 : Code := (Tryz.f4.body.bind (blockOf 2)).getD .skip
attribute [local go_sem ↓] Go.wp_at_zero Go.wp_at_succ
set_option maxHeartbeats 12800000 in
set_option maxRecDepth 100000 in
theorem po_b2 (u0 u1 u2 u3 u4 u5 u6 u7 u8 u9 u10 u12 u15 u18 u19 u20 u21 u22 u23 u24 u25 u26 u27 u28 u29 u30 u31 u32 u33 u34 u35 u36 u37 u38 u39 u40 u41 u42 u43 u44 u45 u46 u47 u48 u49 u50 u51 u52 u53 u54 u55 u56 u57 u58 u59 u60 u61 u62 u63 u64 u65 u66 u67 u68 u69 u70 u71 u72 u73 u74 u75 u76 u77 u78 u79 u80 u81 u82 u83 u84 u85 u86 u87 u88 u89 u90 u91 u92 u93 u94 u95 u96 u97 u98 u99 u100 u101 u102 u103 u104 u105 u106 u107 u108 u109 u110 u111 u112 u113 u114 u115 u116 u117 u118 u119 u120 u121 u122 u123 u124 u125 u126 u127 u128 u129 u130 u131 u132 u133 u134 u135 u136 u137 u138 u139 u140 u141 u142 u143 u144 u145 u146 u147 u148 u149 u150 u151 u152 u153 u154 u155 u156 u157 u158 u159 u160 u161 u162 u163 u164 u165 u166 u167 u168 u169 u170 u171 u172 u173 u174 u175 u176 u177 u178 u179 : Value) (g11 g14 go oc K F base : Nat) (L : Ly) (o : Nat → Nat) (w Wi : World) (Q : Exit → Act → World → Prop) (HM : Hid (OrM Wi base g14 L F o none 0 0 none 0 0)) (HL : Hid (Wi.rowIs g11 38 15 (lyf L))) (HLS : Hid (Lst w L)) (HBW : Hid (Below w.heap.size w Wi)) (HO : Hid (∀ k, k < K → o k < K ∧ Wi.cell? ⟨go, k, none⟩ = some (.int .i64 ((o k : Nat) : Int)))) (HK : Hid ((1 ≤ F ∧ K ≤ 4096) ∧ (L.mw = K * F ∧ L.mw ≤ 16777216 ∧ L.mw ≤ L.cw ∧ L.mn = K ∧ L.k = (K : Int)) ∧ base ≤ Wi.heap.size ∧ (g11 < base ∧ g11 ≠ g14) ∧ (go < base ∧ go ≠ g14) ∧ w.heap.size ≤ base ∧ w.heap.size ≤ g14))
    (hQ : Hid (∀ (X' : World) (aw : Option Addr) (cw : Nat) (an : Option Addr) (cn : Nat) (v17 v79 v80 v81 v82 v83 v84 v85 v86 v87 v88 v89 v90 v91 v92 v93 v94 v95 v96 v97 v98 v99 v100 v101 v102 v103 v104 v105 v106 v107 v108 v109 v110 v111 v112 v113 v114 v115 v116 v117 : Value), OrM X' base g14 L F o aw L.mw cw an L.mn cn → FrT base g14 Wi X' → Q .normal ⟨#[u0, u1, u2, u3, u4, u5, u6, u7, u8, u9, u10, .pointer (some ⟨g11, 0, none⟩), u12, .slice (some ⟨go, 0, none⟩) K oc, .pointer (some ⟨g14, 0, none⟩), u15, .int .i64 (F : Int), v17, u18, u19, u20, u21, u22, u23, u24, u25, u26, u27, u28, u29, u30, u31, u32, u33, u34, u35, u36, u37, u38, u39, u40, u41, u42, u43, u44, u45, u46, u47, u48, u49, u50, u51, u52, u53, u54, u55, u56, u57, u58, u59, u60, u61, u62, u63, u64, u65, u66, u67, u68, u69, u70, u71, u72, u73, u74, u75, u76, u77, u78, v79, v80, v81, v82, v83, v84, v85, v86, v87, v88, v89, v90, v91, v92, v93, v94, v95, v96, v97, v98, v99, v100, v101, v102, v103, v104, v105, v106, v107, v108, v109, v110, v111, v112, v113, v114, v115, v116, v117, u118, u119, u120, u121, u122, u123, u124, u125, u126, u127, u128, u129, u130, u131, u132, u133, u134, u135, u136, u137, u138, u139, u140, u141, u142, u143, u144, u145, u146, u147, u148, u149, u150, u151, u152, u153, u154, u155, u156, u157, u158, u159, u160, u161, u162, u163, u164, u165, u166, u167, u168, u169, u170, u171, u172, u173, u174, u175, u176, u177, u178, u179], []⟩ X')) :
    Code.wp Tryz.prog poB2 Q ⟨#[u0, u1, u2, u3, u4, u5, u6, u7, u8, u9, u10, .pointer (some ⟨g11, 0, none⟩), u12, .slice (some ⟨go, 0, none⟩) K oc, .pointer (some ⟨g14, 0, none⟩), u15, .int .i64 (F : Int), .int .i64 0, u18, u19, u20, u21, u22, u23, u24, u25, u26, u27, u28, u29, u30, u31, u32, u33, u34, u35, u36, u37, u38, u39, u40, u41, u42, u43, u44, u45, u46, u47, u48, u49, u50, u51, u52, u53, u54, u55, u56, u57, u58, u59, u60, u61, u62, u63, u64, u65, u66, u67, u68, u69, u70, u71, u72, u73, u74, u75, u76, u77, u78, u79, u80, u81, u82, u83, u84, u85, u86, u87, u88, u89, u90, u91, u92, u93, u94, u95, u96, u97, u98, u99, u100, u101, u102, u103, u104, u105, u106, u107, u108, u109, u110, u111, u112, u113, u114, u115, u116, u117, u118, u119, u120, u121, u122, u123, u124, u125, u126, u127, u128, u129, u130, u131, u132, u133, u134, u135, u136, u137, u138, u139, u140, u141, u142, u143, u144, u145, u146, u147, u148, u149, u150, u151, u152, u153, u154, u155, u156, u157, u158, u159, u160, u161, u162, u163, u164, u165, u166, u167, u168, u169, u170, u171, u172, u173, u174, u175, u176, u177, u178, u179], []⟩ Wi := by
  conv => arg 2; whnf
  have hK4 := HK.out.1.2
  go_wp2_with fail
  go_loopw [17] (fun s17 wr => ∃ (k mw cw mn cn : Nat) (aw an : Option Addr), k ≤ K ∧ s17 = .int .i64 k ∧ Hid (mw = k * F) ∧ Hid (mn = k) ∧ Hid (OrM wr base g14 L F o aw mw cw an mn cn) ∧ Hid (FrT base g14 Wi wr)) (fun s17 _ => K - (intOf s17).toNat)
  case atStart => exact ⟨0, 0, 0, 0, 0, none, none, Nat.zero_le _, rfl, hid1 (by simp), hid1 rfl, HM, hid1 (FrT.refl _ _ _)⟩
  case round =>
    clear HM
    obtain ⟨k, mw, cw, mn, cn, aw, an, hk, rfl, HMW, HMN, HM, HFR⟩ := hrel
    obtain ⟨⟨q1, q2⟩, ⟨q3, q4, q5, q6, q7⟩, q8, ⟨q9, q10⟩, ⟨q11, q12⟩, q13, q14⟩ := HK.out
    have c2 : wr.cell? ⟨g11, 2, none⟩ = some (.int .i64 (K : Int)) := by rw [← q7]; exact (HFR.out.row q9 q10 HL.out).cell (i := 2) (by decide)
    have ik0 : (0 : Int) ≤ (k : Int) := by omega
    by_cases hlt : k < K
    · have ilt : (k : Int) < (K : Int) := by omega
      have wk : IntKind.i64.wrap ((k : Int) + 1) = (k : Int) + 1 := by rw [IntKind.wrap_i64]; omega
      have HB1 := hid1 (HFR.out.below w q13 q14 HBW.out)
      have HL1 : Hid (wr.cell? ⟨g11, 12, none⟩ = some (.slice L.aw L.mw L.cw)) := hid1 ((HFR.out.row q9 q10 HL.out).cell (i := 12) (by decide))
      have HO1 : Hid (wr.cell? ⟨go, k, none⟩ = some (.int .i64 ((o k : Nat) : Int))) := hid1 (HFR.out.cell q11 q12 (HO.out k hlt).2)
      have HZ1 : Hid ((k < K ∧ o k < K ∧ 1 ≤ F ∧ K ≤ 4096) ∧ (L.mw = K * F ∧ L.mw ≤ 16777216 ∧ mw = k * F ∧ L.mw ≤ L.cw) ∧ base ≤ wr.heap.size) := hid1 ⟨⟨hlt, (HO.out k hlt).1, q1, q2⟩, ⟨q3, q4, HMW.out, q5⟩, by have := HFR.out.size; omega⟩
      have HW1 := hid1 (HLS.out.1.keep HB1.out)
      clear q1 q2 q3 q4 q5 q6 q7 q8 q9 q10 q11 q12 q13 q14
      go_upto_region 18 with fail
      refine po_r18 _ _ _ _ _ _ _ _ _ _ _ _ _ _ _ _ _ _ _ _ _ _ _ _ _ _ _ _ _ _ _ _ _ _ _ _ _ _ _ _ _ _ _ _ _ _ _ _ _ _ _ _ _ _ _ _ _ _ _ _ _ _ _ _ _ _ _ _ _ _ _ _ _ _ _ _ _ _ _ _ _ _ _ _ _ _ _ _ _ _ _ _ _ _ _ _ _ _ _ _ _ _ _ _ _ _ _ _ _ _ _ _ _ _ _ _ _ _ _ _ _ _ _ _ _ _ _ _ _ _ _ _ _ _ _ _ _ _ _ _ _ _ _ _ _ _ _ _ _ _ _ _ _ _ _ _ _ _ _ _ _ _ _ _ _ _ _ _ _ _ _ _ _ _ _ g11 g14 go oc K F k base mw cw mn cn L o aw an wr _ HM HL1 HW1 HO1 HZ1 (hid1 ?_)
      intro X1 a2 d2 v85 v86 v87 v88 v89 v90 v91 v92 v93 v94 v95 v96 v97 v98 v99 v100 v101 v102 v103 v104 M1 F1
      have HM1 := hid1 M1
      have HF1 := hid1 (HFR.out.trans F1)
      clear M1 F1 HM HFR HB1 HL1 HO1 HZ1 HW1 c2
      obtain ⟨⟨q1, q2⟩, ⟨q3, q4, q5, q6, q7⟩, q8, ⟨q9, q10⟩, ⟨q11, q12⟩, q13, q14⟩ := HK.out
      have HB1 := hid1 (HF1.out.below w q13 q14 HBW.out)
      have HL1 : Hid (X1.cell? ⟨g11, 13, none⟩ = some (.slice L.an L.mn L.cn)) := hid1 ((HF1.out.row q9 q10 HL.out).cell (i := 13) (by decide))
      have HO1 : Hid (X1.cell? ⟨go, k, none⟩ = some (.int .i64 ((o k : Nat) : Int))) := hid1 (HF1.out.cell q11 q12 (HO.out k hlt).2)
      have HZ1 : Hid ((k < K ∧ o k < K ∧ K ≤ 4096) ∧ L.mn = K ∧ mn = k ∧ base ≤ X1.heap.size) := hid1 ⟨⟨hlt, (HO.out k hlt).1, q2⟩, q6, HMN.out, by have := HF1.out.size; omega⟩
      have HW1 := hid1 (HLS.out.2.1.keep HB1.out)
      clear q1 q2 q3 q4 q5 q6 q7 q8 q9 q10 q11 q12 q13 q14
      go_upto_region 19 with fail
      refine po_r19 _ _ _ _ _ _ _ _ _ _ _ _ _ _ _ _ _ _ _ _ _ _ _ _ _ _ _ _ _ _ _ _ _ _ _ _ _ _ _ _ _ _ _ _ _ _ _ _ _ _ _ _ _ _ _ _ _ _ _ _ _ _ _ _ _ _ _ _ _ _ _ _ _ _ _ _ _ _ _ _ _ _ _ _ _ _ _ _ _ _ _ _ _ _ _ _ _ _ _ _ _ _ _ _ _ _ _ _ _ _ _ _ _ _ _ _ _ _ _ _ _ _ _ _ _ _ _ _ _ _ _ _ _ _ _ _ _ _ _ _ _ _ _ _ _ _ _ _ _ _ _ _ _ _ _ _ _ _ _ _ _ _ _ _ _ _ _ _ _ _ _ _ _ _ _ g11 g14 go oc K F k base (mw + F) d2 mn cn L o a2 an X1 _ HM1 HL1 HW1 HO1 HZ1 (hid1 ?_)
      intro X2 a3 d3 v105 v106 v107 v108 v109 v110 v111 v112 v113 v114 v115 v116 v117 M2 F2
      have HM2 := hid1 M2
      have HF2 := hid1 (HF1.out.trans F2)
      clear M2 F2 HM1 HF1 HB1 HL1 HO1 HZ1 HW1
      go_wp2_with fail
      exact ⟨⟨k + 1, mw + F, d2, mn + 1, d3, a2, a3, by omega, by go_num, hid1 (by rw [HMW.out, Nat.succ_mul]), hid1 (by rw [HMN.out]), HM2, HF2⟩, by simp [intOf]; omega⟩
    · have ilt : ¬ (k : Int) < (K : Int) := by omega
      have HE := hid1 (show k = K by omega)
      have HMQ : Hid (OrM wr base g14 L F o aw L.mw cw an L.mn cn) := hid1 (by
        rw [q3, q6, ← HE.out, ← HMW.out]
        have := HM.out
        rw [HMN.out] at this
        exact this)
      clear HM q3 q6 hlt
      go_wp2_with fail
      exact hQ.out _ aw cw an cn _ _ _ _ _ _ _ _ _ _ _ _ _ _ _ _ _ _ _ _ _ _ _ _ _ _ _ _ _ _ _ _ _ _ _ _ _ _ _ _ HMQ.out HFR.out
end Go.Proofs.YtlgjoepeibodkaaGreat.Nn
/- PLAINTURNED: the loops that turn. -/
namespace Go.Proofs.YtlgjoepeibodkaaGreat.Nn
open Go.RowKit

/-- What has not turned: what is older, and what lies below. -/
def BlT (w W1 : World) (base : Nat) (X : World) : Prop := Below w.heap.size w X ∧ Below base W1 X
theorem BlT.set {w W1 X : World} {base q o : Nat} (h : BlT w W1 base X) (hw : w.heap.size ≤ base) (hq : base ≤ q) (u : Value) : BlT w W1 base (X.drew.setCell ⟨q, o, none⟩ u) := ⟨bl_set (Below.drew h.1) (by omega) u, (Below.drew h.2).setCell hq u⟩
/-- Outputs turned so far. -/
def whK (wh : Nat → Bool) (k q : Nat) : Bool := decide (q < k) && wh q
def tuF (wh : Nat → Bool) (ns : Nat → Nat → Int) (x : Nat) : Int := tuN ns wh (x / 8) (x % 8)
def RBo (W : World) (ao : Option Addr) (m : Nat) (wh : Nat → Bool) : Prop := ∀ k, k < m → ∃ g o, ao = some ⟨g, o, none⟩ ∧ W.cell? ⟨g, o + k, none⟩ = some (.bool (wh k))
theorem RBo.keep {W X : World} {ao : Option Addr} {m : Nat} {wh : Nat → Bool} (h : RBo W ao m wh) (hb : Below W.heap.size W X) : RBo X ao m wh := fun k hk => by
  obtain ⟨g, o, e, c⟩ := h k hk
  exact ⟨g, o, e, keepc hb c⟩
theorem whK_zero (wh : Nat → Bool) (q : Nat) : whK wh 0 q = false := by simp [whK]
theorem whK_ne {wh : Nat → Bool} {k q : Nat} (h : q ≠ k) : whK wh (k + 1) q = whK wh k q := by
  unfold whK
  rw [show decide (q < k + 1) = decide (q < k) from decide_eq_decide.2 (by omega)]
theorem whK_at (wh : Nat → Bool) (k : Nat) : whK wh (k + 1) k = wh k := by simp [whK]
theorem whK_off (wh : Nat → Bool) (k : Nat) : whK wh k k = false := by simp [whK]
theorem div_place {F k j : Nat} (hF : 1 ≤ F) : (k * F ≤ j ∧ j < k * F + F) ↔ j / F = k := by
  constructor
  · rintro ⟨h1, h2⟩
    exact Nat.div_eq_of_lt_le (by omega) (by rw [Nat.succ_mul]; exact h2)
  · intro h
    subst h
    exact ⟨Nat.div_mul_le_self j F, by have := Nat.lt_div_mul_add (a := j) (b := F) (by omega); omega⟩
/-- A whole output turned, or none. -/
theorem tuW_step {ws : Nat → Int} {F k : Nat} {wh : Nat → Bool} (hF : 1 ≤ F) (h : wh k = true) (j : Nat) : (if k * F ≤ j ∧ j < k * F + F then -tuW ws F (whK wh k) j else tuW ws F (whK wh k) j) = tuW ws F (whK wh (k + 1)) j := by
  by_cases hj : k * F ≤ j ∧ j < k * F + F
  · rw [if_pos hj]
    have e := (div_place hF).1 hj
    unfold tuW
    rw [e, whK_off, whK_at, h, if_neg (by decide), if_pos rfl]
  · rw [if_neg hj]
    have e : j / F ≠ k := fun e => hj ((div_place hF).2 e)
    unfold tuW
    rw [whK_ne e]
theorem tuW_skip {ws : Nat → Int} {F k : Nat} {wh : Nat → Bool} (h : wh k = false) (j : Nat) : tuW ws F (whK wh k) j = tuW ws F (whK wh (k + 1)) j := by
  unfold tuW
  by_cases e : j / F = k
  · rw [e, whK_off, whK_at, h]
  · rw [whK_ne e]
theorem tuF_skip {ns : Nat → Nat → Int} {k : Nat} {wh : Nat → Bool} (h : wh k = false) (x : Nat) : tuF (whK wh k) ns x = tuF (whK wh (k + 1)) ns x := by
  unfold tuF tuN
  by_cases e : x / 8 = k
  · rw [e, whK_off, whK_at, h]
  · rw [whK_ne e]
theorem tuF_step {ns : Nat → Nat → Int} {k : Nat} {wh : Nat → Bool} (h : wh k = true) (x : Nat) : (if x = k * 8 + 4 then -ns k 4 else if x = k * 8 then -ns k 0 else tuF (whK wh k) ns x) = tuF (whK wh (k + 1)) ns x := by
  unfold tuF tuN
  by_cases e : x / 8 = k
  · rw [e, whK_off, whK_at, h]
    by_cases h4 : x = k * 8 + 4
    · rw [if_pos h4, if_pos ⟨rfl, by omega⟩, show x % 8 = 4 by omega]
    · rw [if_neg h4]
      by_cases h0 : x = k * 8
      · rw [if_pos h0, if_pos ⟨rfl, by omega⟩, show x % 8 = 0 by omega]
      · rw [if_neg h0, if_neg (by simp), if_neg (by omega)]
  · rw [if_neg (by omega), if_neg (by omega), whK_ne e]
theorem tuF_at {ns : Nat → Nat → Int} {k c : Nat} {wh : Nat → Bool} (hc : c < 8) : tuF (whK wh k) ns (k * 8 + c) = ns k c := by
  unfold tuF tuN
  rw [show (k * 8 + c) / 8 = k by omega, show (k * 8 + c) % 8 = c by omega, whK_off, if_neg (by simp)]
theorem neg8 {x : Int} (h : -1 ≤ x ∧ x ≤ 1) : IntKind.i8.wrap (-x) = -x := by
  rcases (show x = -1 ∨ x = 0 ∨ x = 1 by omega) with rfl | rfl | rfl <;> decide
noncomputable def ptB2 : Code := (Tryz.f3.body.bind (blockOf 2)).getD .skip
attribute [local go_sem ↓] Go.wp_at_zero Go.wp_at_succ
set_option maxHeartbeats 12800000 in
set_option maxRecDepth 100000 in
theorem tu_b2 (u0 u1 u2 u3 u4 u5 u6 u7 u8 u9 u14 u15 u16 u17 u18 u19 u20 u21 u22 u23 u24 u25 u26 u27 u28 u29 u30 u31 u32 u33 u34 u35 u36 u37 u38 u39 u40 u41 u42 u43 u44 u45 u46 u47 u48 u49 u50 u51 u52 u53 u54 u55 u56 u57 u58 u59 u60 u61 u62 u63 u64 u65 u66 u67 u68 u69 u70 u71 u72 u73 u74 u75 u76 u77 u78 u79 u80 u81 u82 u83 u84 u85 u86 u87 u88 u89 u90 u91 u92 u93 u94 u95 u96 u97 u98 u99 u100 u101 u102 u103 u104 u105 u106 u107 u108 u109 u110 u111 u112 u113 u114 u115 u116 u117 u118 u119 u120 u121 u122 u123 u124 u125 u126 u127 u128 u129 u130 u131 u132 u133 u134 u135 u136 u137 u138 u139 u140 u141 u142 u143 : Value) (g10 F k base : Nat) (L : Ly) (aw : Option Addr) (cw : Nat) (an : Option Addr) (cn : Nat) (ws nf : Nat → Int) (w W1 Wi : World) (Q : Exit → Act → World → Prop) (HT : Hid (TuM Wi base g10 L aw cw an cn ws nf)) (HF : Hid (1 ≤ F ∧ k * F + F ≤ L.mw ∧ L.mw ≤ 16777216)) (HWS : Hid (∀ j, j < L.mw → -1 ≤ ws j ∧ ws j ≤ 1)) (HB : Hid (w.heap.size ≤ base)) (HBI : Hid (BlT w W1 base Wi))
    (hQ : Hid (∀ (X' : World) (v13 v67 v68 v69 v70 v71 v72 v73 v74 v75 v76 v77 v78 v79 v80 v81 v82 v83 v84 v85 v86 v87 v88 v89 : Value), TuM X' base g10 L aw cw an cn (fun j => if k * F ≤ j ∧ j < k * F + F then -ws j else ws j) nf → BlT w W1 base X' → Q .normal ⟨#[u0, u1, u2, u3, u4, u5, u6, u7, u8, u9, .pointer (some ⟨g10, 0, none⟩), .int .i64 (F : Int), .int .i64 (k : Int), v13, u14, u15, u16, u17, u18, u19, u20, u21, u22, u23, u24, u25, u26, u27, u28, u29, u30, u31, u32, u33, u34, u35, u36, u37, u38, u39, u40, u41, u42, u43, u44, u45, u46, u47, u48, u49, u50, u51, u52, u53, u54, u55, u56, u57, u58, u59, u60, u61, u62, u63, u64, u65, u66, v67, v68, v69, v70, v71, v72, v73, v74, v75, v76, v77, v78, v79, v80, v81, v82, v83, v84, v85, v86, v87, v88, v89, u90, u91, u92, u93, u94, u95, u96, u97, u98, u99, u100, u101, u102, u103, u104, u105, u106, u107, u108, u109, u110, u111, u112, u113, u114, u115, u116, u117, u118, u119, u120, u121, u122, u123, u124, u125, u126, u127, u128, u129, u130, u131, u132, u133, u134, u135, u136, u137, u138, u139, u140, u141, u142, u143], []⟩ X')) :
    Code.wp Tryz.prog ptB2 Q ⟨#[u0, u1, u2, u3, u4, u5, u6, u7, u8, u9, .pointer (some ⟨g10, 0, none⟩), .int .i64 (F : Int), .int .i64 (k : Int), .int .i64 0, u14, u15, u16, u17, u18, u19, u20, u21, u22, u23, u24, u25, u26, u27, u28, u29, u30, u31, u32, u33, u34, u35, u36, u37, u38, u39, u40, u41, u42, u43, u44, u45, u46, u47, u48, u49, u50, u51, u52, u53, u54, u55, u56, u57, u58, u59, u60, u61, u62, u63, u64, u65, u66, u67, u68, u69, u70, u71, u72, u73, u74, u75, u76, u77, u78, u79, u80, u81, u82, u83, u84, u85, u86, u87, u88, u89, u90, u91, u92, u93, u94, u95, u96, u97, u98, u99, u100, u101, u102, u103, u104, u105, u106, u107, u108, u109, u110, u111, u112, u113, u114, u115, u116, u117, u118, u119, u120, u121, u122, u123, u124, u125, u126, u127, u128, u129, u130, u131, u132, u133, u134, u135, u136, u137, u138, u139, u140, u141, u142, u143], []⟩ Wi := by
  conv => arg 2; whnf
  obtain ⟨f1, f2, f3⟩ := HF.out
  obtain ⟨kF, hkF⟩ : ∃ kF, kF = k * F := ⟨_, rfl⟩
  have wM : IntKind.i64.wrap ((k : Int) * (F : Int)) = (kF : Int) := by rw [← Int.natCast_mul, ← hkF, IntKind.wrap_i64]; omega
  have hb2 : kF + F ≤ L.mw := by omega
  have HKF := hid1 hkF
  clear hkF f2
  go_wp2_with fail
  go_loopw [13] (fun s13 wr => ∃ j : Nat, j ≤ F ∧ s13 = .int .i64 j ∧ Hid (BlT w W1 base wr) ∧ Hid (TuM wr base g10 L aw cw an cn (fun i => if kF ≤ i ∧ i < kF + j then -ws i else ws i) nf)) (fun s13 _ => F - (intOf s13).toNat)
  case atStart => exact ⟨0, Nat.zero_le _, rfl, HBI, hid1 (HT.out.congr (fun j _ => by rw [if_neg (by omega)]) fun _ _ => rfl)⟩
  case round =>
    clear HT HBI
    obtain ⟨j, hj, rfl, HBR, HTR⟩ := hrel
    have ij0 : (0 : Int) ≤ (j : Int) := by omega
    by_cases hlt : j < F
    · have ilt : (j : Int) < (F : Int) := by omega
      obtain ⟨p, hp⟩ : ∃ p, p = kF + j := ⟨_, rfl⟩
      have hpm : p < L.mw := by omega
      have wA : IntKind.i64.wrap ((kF : Int) + (j : Int)) = (p : Int) := by rw [IntKind.wrap_i64]; omega
      have wj : IntKind.i64.wrap ((j : Int) + 1) = (j : Int) + 1 := by rw [IntKind.wrap_i64]; omega
      obtain ⟨q, eq, hq, -, hc, hz⟩ := HTR.out.wc (by omega)
      have c12 : wr.cell? ⟨g10, 12, none⟩ = some (.slice (some ⟨q, 0, none⟩) L.mw cw) := by rw [← eq]; exact HTR.out.1.cell (i := 12) (by decide)
      obtain ⟨x, hx⟩ : ∃ x, ws p = x := ⟨_, rfl⟩
      have cp : wr.cell? ⟨q, p, none⟩ = some (.int .i8 x) := by
        rw [hc p hpm, if_neg (by omega), hx]
      have fz := hz p
      have wx : IntKind.i8.wrap (-x) = -x := neg8 (by rw [← hx]; exact HWS.out p hpm)
      have ip0 : (0 : Int) ≤ (p : Int) := by omega
      have ipm : (p : Int) < (L.mw : Int) := by omega
      have HN := hid1 (((HTR.out.keep (Below.drew (Below.refl _ _))).wset eq hpm (-x)).congr (ws' := fun i => if kF ≤ i ∧ i < kF + (j + 1) then -ws i else ws i) (nf' := nf) (fun i _ => by
        by_cases e : i = p
        · rw [if_pos e, if_pos (by omega), e, hx]
        · rw [if_neg e]
          by_cases h2 : kF ≤ i ∧ i < kF + j
          · rw [if_pos h2, if_pos (by omega)]
          · rw [if_neg h2, if_neg (by omega)]) fun _ _ => rfl)
      have HBN := hid1 (BlT.set (o := p) HBR.out HB.out hq (.int .i8 (-x)))
      clear hp hc hz eq hx HTR
      go_upto_region 17 with fail
      refine still_tailP 18 (by decide +kernel) ?_
      simp only [List.take_succ_cons, List.take_zero, List.drop_succ_cons, List.drop_zero]
      repeat still_step
      refine wpStill_nil ?_
      go_wp2
      exact ⟨⟨j + 1, by omega, by go_num, HBN, HN⟩, by simp [intOf]; omega⟩
    · have ilt : ¬ (j : Int) < (F : Int) := by omega
      have HE := hid1 (show j = F by omega)
      go_wp2_with fail
      exact hQ.out _ _ _ _ _ _ _ _ _ _ _ _ _ _ _ _ _ _ _ _ _ _ _ _ _ (HTR.out.congr (fun i _ => by rw [← HKF.out, HE.out]) fun _ _ => rfl) HBR.out
end Go.Proofs.YtlgjoepeibodkaaGreat.Nn
/- PLAINORDER: the next layer's weights in the order of the channels. -/
namespace Go.Proofs.YtlgjoepeibodkaaGreat.Nn
open Go.RowKit

/-- The layer whose weights are written. -/
def AfM (W : World) (base g : Nat) (M : Ly) (aw : Option Addr) (cw : Nat) (ws : Nat → Int) : Prop := W.rowIs g 38 15 (lyf (lsL M aw cw M.an M.cn)) ∧ W.ownsRow base 39 1 (.slice aw M.mw cw) M.mw (clT M.mw fun j => .int .i8 (ws j))
theorem AfM.keep {W X : World} {base g : Nat} {M : Ly} {aw : Option Addr} {cw : Nat} {ws : Nat → Int} (h : AfM W base g M aw cw ws) (hb : Below W.heap.size W X) : AfM X base g M aw cw ws := ⟨World.rowIs.of_block h.1 (hb.block _ h.1.lt), own_bl h.2 hb⟩
theorem AfM.set {W : World} {base g p q : Nat} {M : Ly} {aw : Option Addr} {cw : Nat} {ws : Nat → Int} (h : AfM W base g M aw cw ws) (hq : aw = some ⟨q, 0, none⟩) (hp : p < M.mw) (y : Int) : AfM (W.setCell ⟨q, p, none⟩ (.int .i8 y)) base g M aw cw (fun j => if j = p then y else ws j) := by
  obtain ⟨h1, h2⟩ := h
  subst hq
  refine ⟨h1.setOther (by show g ≠ q; exact rowNeT h1 h2 (by decide) rfl) _, ?_⟩
  have := (h2.stored p (.int .i8 y)).1
  rw [clT_set hp] at this
  rw [show (clT M.mw fun j => Value.int .i8 (if j = p then y else ws j)) = clT M.mw fun j => if j = p then .int .i8 y else .int .i8 (ws j) from clT_congr fun j _ => by by_cases e : j = p <;> simp [e]]
  exact this
theorem AfM.congr {W : World} {base g : Nat} {M : Ly} {aw : Option Addr} {cw : Nat} {ws ws' : Nat → Int} (h : AfM W base g M aw cw ws) (h1 : ∀ j, j < M.mw → ws j = ws' j) : AfM W base g M aw cw ws' := by
  refine ⟨h.1, ?_⟩
  rw [← clT_congr (f := fun j => Value.int .i8 (ws j)) fun j hj => by rw [h1 j hj]]
  exact h.2
noncomputable def poB4 : Code := (Tryz.f4.body.bind (blockOf 4)).getD .skip
attribute [local go_sem ↓] Go.wp_at_zero Go.wp_at_succ
set_option maxHeartbeats 12800000 in
set_option maxRecDepth 100000 in
theorem po_b4 (u0 u1 u2 u3 u4 u5 u6 u7 u8 u9 u10 u14 u16 u17 u19 u20 u21 u22 u23 u24 u25 u26 u27 u28 u29 u30 u31 u32 u33 u34 u35 u36 u37 u38 u39 u40 u41 u42 u43 u44 u45 u46 u47 u48 u49 u50 u51 u52 u53 u54 u55 u56 u57 u58 u59 u60 u61 u62 u63 u64 u65 u66 u67 u68 u69 u70 u71 u72 u73 u74 u75 u76 u77 u78 u79 u80 u81 u82 u83 u84 u85 u86 u87 u88 u89 u90 u91 u92 u93 u94 u95 u96 u97 u98 u99 u100 u101 u102 u103 u104 u105 u106 u107 u108 u109 u110 u111 u112 u113 u114 u115 u116 u117 u118 u119 u120 u121 u122 u123 u124 u125 u126 u127 u128 u129 u130 u131 u132 u133 u134 u135 u136 u137 u138 u139 u140 u141 u142 u143 u144 u145 u146 u147 u148 u149 u150 u151 u152 u153 u154 u155 u156 u157 u158 u159 u160 u161 u162 u163 u164 u165 u166 u167 u168 u169 u170 u171 u172 u173 u174 u175 u176 u177 u178 u179 : Value) (g11 g12 g15 go oc K n base cw : Nat) (L M : Ly) (aw : Option Addr) (o : Nat → Nat) (w W1 Wi : World) (Q : Exit → Act → World → Prop) (HM : Hid (AfM Wi base g15 M aw cw M.ws)) (HLR : Hid (Wi.rowIs g11 38 15 (lyf L))) (HMR : Hid (Wi.rowIs g12 38 15 (lyf M))) (HWT : Hid (Wts w M)) (HBI : Hid (BlT w W1 base Wi)) (HO : Hid (∀ k, k < K → o k < K ∧ Wi.cell? ⟨go, k, none⟩ = some (.int .i64 ((o k : Nat) : Int)))) (HP : Hid (Prm K o)) (HK : Hid ((1 ≤ K ∧ K ≤ 4096) ∧ (M.mw = n * K ∧ 1 ≤ M.mw ∧ M.mw ≤ 16777216) ∧ L.k = (K : Int) ∧ w.heap.size ≤ base ∧ g11 < base ∧ g12 < base ∧ go < base)) (HB1 : Hid (Below base Wi Wi))
    (hQ : Hid (∀ (X' : World) (v18 v122 v123 v124 v125 v126 v127 v128 v129 v130 v131 v132 v133 v134 v135 v136 v137 v138 v139 v140 v141 v142 v143 v144 v145 v146 v147 v148 v149 v150 : Value), AfM X' base g15 M aw cw (afW M.ws K o) → BlT w W1 base X' → Q .normal ⟨#[u0, u1, u2, u3, u4, u5, u6, u7, u8, u9, u10, .pointer (some ⟨g11, 0, none⟩), .pointer (some ⟨g12, 0, none⟩), .slice (some ⟨go, 0, none⟩) K oc, u14, .pointer (some ⟨g15, 0, none⟩), u16, u17, v18, u19, u20, u21, u22, u23, u24, u25, u26, u27, u28, u29, u30, u31, u32, u33, u34, u35, u36, u37, u38, u39, u40, u41, u42, u43, u44, u45, u46, u47, u48, u49, u50, u51, u52, u53, u54, u55, u56, u57, u58, u59, u60, u61, u62, u63, u64, u65, u66, u67, u68, u69, u70, u71, u72, u73, u74, u75, u76, u77, u78, u79, u80, u81, u82, u83, u84, u85, u86, u87, u88, u89, u90, u91, u92, u93, u94, u95, u96, u97, u98, u99, u100, u101, u102, u103, u104, u105, u106, u107, u108, u109, u110, u111, u112, u113, u114, u115, u116, u117, u118, u119, u120, u121, v122, v123, v124, v125, v126, v127, v128, v129, v130, v131, v132, v133, v134, v135, v136, v137, v138, v139, v140, v141, v142, v143, v144, v145, v146, v147, v148, v149, v150, u151, u152, u153, u154, u155, u156, u157, u158, u159, u160, u161, u162, u163, u164, u165, u166, u167, u168, u169, u170, u171, u172, u173, u174, u175, u176, u177, u178, u179], []⟩ X')) :
    Code.wp Tryz.prog poB4 Q ⟨#[u0, u1, u2, u3, u4, u5, u6, u7, u8, u9, u10, .pointer (some ⟨g11, 0, none⟩), .pointer (some ⟨g12, 0, none⟩), .slice (some ⟨go, 0, none⟩) K oc, u14, .pointer (some ⟨g15, 0, none⟩), u16, u17, .int .i64 0, u19, u20, u21, u22, u23, u24, u25, u26, u27, u28, u29, u30, u31, u32, u33, u34, u35, u36, u37, u38, u39, u40, u41, u42, u43, u44, u45, u46, u47, u48, u49, u50, u51, u52, u53, u54, u55, u56, u57, u58, u59, u60, u61, u62, u63, u64, u65, u66, u67, u68, u69, u70, u71, u72, u73, u74, u75, u76, u77, u78, u79, u80, u81, u82, u83, u84, u85, u86, u87, u88, u89, u90, u91, u92, u93, u94, u95, u96, u97, u98, u99, u100, u101, u102, u103, u104, u105, u106, u107, u108, u109, u110, u111, u112, u113, u114, u115, u116, u117, u118, u119, u120, u121, u122, u123, u124, u125, u126, u127, u128, u129, u130, u131, u132, u133, u134, u135, u136, u137, u138, u139, u140, u141, u142, u143, u144, u145, u146, u147, u148, u149, u150, u151, u152, u153, u154, u155, u156, u157, u158, u159, u160, u161, u162, u163, u164, u165, u166, u167, u168, u169, u170, u171, u172, u173, u174, u175, u176, u177, u178, u179], []⟩ Wi := by
  conv => arg 2; whnf
  obtain ⟨qq, eq, hqq, hmc⟩ : ∃ q, aw = some ⟨q, 0, none⟩ ∧ base ≤ q ∧ M.mw ≤ cw := by
    obtain ⟨q, e, h1, h2, -, -⟩ := own_cellsS HM.out.2 HK.out.2.1.2.1
    exact ⟨q, e, h2, h1⟩
  have HEQ := hid1 eq
  have HQB := hid1 hqq
  subst eq
  clear hqq hmc
  go_wp2_with fail
  go_loopw [18] (fun s18 wr => ∃ t : Nat, t ≤ M.mw ∧ s18 = .int .i64 t ∧ Hid (BlT w W1 base wr) ∧ Hid (Below base Wi wr) ∧ Hid (AfM wr base g15 M (some ⟨qq, 0, none⟩) cw (fun j => if j < t then afW M.ws K o j else M.ws j))) (fun s18 _ => M.mw - (intOf s18).toNat)
  case atStart => exact ⟨0, Nat.zero_le _, rfl, HBI, HB1, hid1 (HM.out.congr fun j _ => by rw [if_neg (by omega)])⟩
  case round =>
    clear HM HBI
    obtain ⟨t, ht, rfl, HBR, HBB, HMR2⟩ := hrel
    obtain ⟨⟨q1, q2⟩, ⟨q3, q4, q5⟩, q6, q7, q8, q9, q10⟩ := HK.out
    have c12 : wr.cell? ⟨g15, 12, none⟩ = some (.slice (some ⟨qq, 0, none⟩) M.mw cw) := HMR2.out.1.cell (i := 12) (by decide)
    have it0 : (0 : Int) ≤ (t : Int) := by omega
    by_cases hlt : t < M.mw
    · have ilt : (t : Int) < (M.mw : Int) := by omega
      have wt : IntKind.i64.wrap ((t : Int) + 1) = (t : Int) + 1 := by rw [IntKind.wrap_i64]; omega
      have RL := World.rowIs.of_block HLR.out (HBB.out.block g11 q8)
      have RM := World.rowIs.of_block HMR.out (HBB.out.block g12 q9)
      have k2 : wr.cell? ⟨g11, 2, none⟩ = some (.int .i64 (K : Int)) := by rw [← q6]; exact RL.cell (i := 2) (by decide)
      obtain ⟨r, hr⟩ : ∃ r, t % K = r := ⟨_, rfl⟩
      have hrK : r < K := by rw [← hr]; exact Nat.mod_lt _ q1
      have hrt : r ≤ t := by rw [← hr]; exact Nat.mod_le _ _
      obtain ⟨p, hp⟩ : ∃ p, p = t - r + o r := ⟨_, rfl⟩
      have hpm : p < M.mw := by
        rw [hp, ← hr, q3]
        exact af_lt HP.out q1 (by rw [← q3]; exact hlt)
      obtain ⟨oL, cO⟩ := HO.out r hrK
      obtain ⟨ok, hok⟩ : ∃ ok, o r = ok := ⟨_, rfl⟩
      rw [hok] at oL cO hp
      have cO' : wr.cell? ⟨go, r, none⟩ = some (.int .i64 (ok : Int)) := (World.cell?_of_block (HBB.out.block go q10)).trans cO
      obtain ⟨gw, ow, ew, cW⟩ := (HWT.out.keep HBR.out.1) p hpm
      have m12 : wr.cell? ⟨g12, 12, none⟩ = some (.slice (some ⟨gw, ow, none⟩) M.mw M.cw) := by rw [← ew]; exact RM.cell (i := 12) (by decide)
      obtain ⟨x, hx⟩ : ∃ x, M.ws p = x := ⟨_, rfl⟩
      rw [hx] at cW
      have hK0 : ¬ (K : Int) = 0 := by omega
      have hK1 : (0 : Int) < (K : Int) := by omega
      have hK2 : ¬ K = 0 := by omega
      have tm2 : ((t : Int)) % (K : Int) = (r : Int) := by rw [← hr]; rfl
      have tm : ((t : Int)).tmod (K : Int) = (r : Int) := by rw [Int.tmod_eq_emod_of_nonneg it0, ← hr]; rfl
      have wr1 : IntKind.i64.wrap (r : Int) = (r : Int) := by rw [IntKind.wrap_i64]; omega
      have ws1 : IntKind.i64.wrap ((t : Int) - (r : Int)) = ((t - r : Nat) : Int) := by rw [IntKind.wrap_i64]; omega
      have wa1 : IntKind.i64.wrap (((t - r : Nat) : Int) + (ok : Int)) = (p : Int) := by rw [IntKind.wrap_i64]; omega
      have ir0 : (0 : Int) ≤ (r : Int) := by omega
      have irK : (r : Int) < (K : Int) := by omega
      have ip0 : (0 : Int) ≤ (p : Int) := by omega
      have ipm : (p : Int) < (M.mw : Int) := by omega
      obtain ⟨q0, eq0, -, -, -, hcc⟩ := own_cellsS HMR2.out.2 q4
      cases eq0
      have ct : wr.cell? ⟨qq, t, none⟩ = some (.int .i8 (M.ws t)) := by
        rw [hcc t (by omega), clT_at hlt]
        simp
      have fz : wr.frozen? ⟨qq, t, none⟩ = false := HMR2.out.2.frozenAt t
      have HN := hid1 (((HMR2.out.keep (Below.drew (Below.refl _ _))).set rfl hlt x).congr (ws' := fun j => if j < t + 1 then afW M.ws K o j else M.ws j) (fun j _ => by
        by_cases e : j = t
        · rw [if_pos e, if_pos (by omega), e, ← hx, hp, ← hok, ← hr]
          rfl
        · rw [if_neg e]
          by_cases h2 : j < t
          · rw [if_pos h2, if_pos (by omega)]
          · rw [if_neg h2, if_neg (by omega)]))
      have HBN := hid1 (BlT.set (o := t) HBR.out q7 HQB.out (.int .i8 x))
      have HBM := hid1 ((Below.drew HBB.out).setCell (p := ⟨qq, t, none⟩) HQB.out (.int .i8 x))
      clear hp hcc hx hok hr HMR2 HBR HBB RL RM ew cO q1 q2 q3 q4 q5 q6 q7 q8 q9 q10 oL
      go_upto_region 24 with fail
      refine still_tailP 22 (by decide +kernel) ?_
      simp only [List.take_succ_cons, List.take_zero, List.drop_succ_cons, List.drop_zero]
      repeat still_step
      refine wpStill_nil ?_
      go_wp2
      exact ⟨⟨t + 1, by omega, by go_num, HBN, HBM, HN⟩, by simp [intOf]; omega⟩
    · have ilt : ¬ (t : Int) < (M.mw : Int) := by omega
      have HE := hid1 (show t = M.mw by omega)
      go_wp2_with fail
      exact hQ.out _ _ _ _ _ _ _ _ _ _ _ _ _ _ _ _ _ _ _ _ _ _ _ _ _ _ _ _ _ _ _ (HMR2.out.congr fun j hj => by rw [if_pos (by rw [HE.out]; exact hj)]) HBR.out
end Go.Proofs.YtlgjoepeibodkaaGreat.Nn
/- PLAINORDER: the other network: it may be, and what it answers. -/
namespace Go.Proofs.YtlgjoepeibodkaaGreat.Nn
open Go.RowKit

theorem chan_c {N : Nt} {i j K : Nat} (hz : chE N = 0) (ij : i < j ∧ j < N.ml) (pool : ∀ q, i < q → q < j → (N.lf q).kd = 3) (hk : (N.lf i).k = K) (mn : 0 < (N.lf i).mn) : ∀ q, i + 1 ≤ q → q ≤ j → (sp N q).c = (K : Int)
  | 0, h, _ => absurd h (by omega)
  | q + 1, h, hj => by
    have h0 : faE (N.lf q) (sp N q) = 0 := (fl_all hz).2 q (by omega)
    have hs := sp_all hz q (by omega)
    show oC (N.lf q) (sp N q).h (sp N q).v (sp N q).c = _
    by_cases e : q = i
    · subst e
      rw [(lay_w hs h0 (nm_kd hz (by omega) mn)).2.1]
      exact hk
    · rw [lay_p h0 (pool q (by omega) (by omega))]
      exact chan_c hz ij pool hk mn q (by omega) (by omega)
/-- The next layer's weights are so many for each channel. -/
theorem chan_mw {N : Nt} {i j K : Nat} (hz : chE N = 0) (ij : i < j ∧ j < N.ml) (pool : ∀ q, i < q → q < j → (N.lf q).kd = 3) (nj : ¬ (N.lf j).kd = 3) (hk : (N.lf i).k = K) (mn : 0 < (N.lf i).mn) : ∃ n, (N.lf j).mw = n * K := by
  have h0 : faE (N.lf j) (sp N j) = 0 := (fl_all hz).2 j ij.2
  have hs := sp_all hz j (by omega)
  have hc := chan_c hz ij pool hk mn j (by omega) (Nat.le_refl _)
  obtain ⟨hk2, -, K', F, eK, eF, k1, k2, hmw, f1, -⟩ := lay_w hs h0 nj
  obtain ⟨⟨⟨a1, a2⟩, ⟨a3, a4⟩, ⟨a5, a6⟩⟩, -⟩ := hs
  obtain ⟨n, hn⟩ : ∃ n : Nat, F = n * K := by
    rcases hk2 with hk2 | hk2
    · have hwk := (fw_bd hz ij.2).2.2 (by omega)
      obtain ⟨a, ea⟩ := Int.eq_ofNat_of_zero_le (show 0 ≤ (N.lf j).r by omega)
      obtain ⟨b, eb⟩ := Int.eq_ofNat_of_zero_le (show 0 ≤ (N.lf j).s by omega)
      unfold fan at eF
      rw [if_neg (by omega), hc, ea, eb, ← Int.natCast_mul, ← Int.natCast_mul] at eF
      exact ⟨a * b, (Int.ofNat.inj eF).symm⟩
    · obtain ⟨a, ea⟩ := Int.eq_ofNat_of_zero_le (show 0 ≤ (sp N j).h by omega)
      obtain ⟨b, eb⟩ := Int.eq_ofNat_of_zero_le (show 0 ≤ (sp N j).v by omega)
      unfold fan at eF
      rw [if_pos hk2, hc, ea, eb, ← Int.natCast_mul, ← Int.natCast_mul] at eF
      exact ⟨a * b, (Int.ofNat.inj eF).symm⟩
  exact ⟨K' * n, by rw [hmw, hn, Nat.mul_assoc]⟩
/-- All that is known of the two layers. -/
structure Two (N : Nt) (L M : Ly) (i j K F : Nat) (o : Nat → Nat) : Prop where
  ij : i < j ∧ j < N.ml
  pool : ∀ q, i < q → q < j → (N.lf q).kd = 3
  nj : ¬ M.kd = 3
  l : N.lf i = L
  m : N.lf j = M
  prm : Prm K o
  k : L.k = K
  mn : 0 < L.mn
  f : F = fanN N i
abbrev orA (L : Ly) (F : Nat) (o : Nat → Nat) (aw : Option Addr) (cw : Nat) (an : Option Addr) (cn : Nat) : Ly := reL L aw cw an cn (orW L.ws F o) (orN L.ns o)
abbrev afB (M : Ly) (K : Nat) (o : Nat → Nat) (bw : Option Addr) (cb : Nat) : Ly := reL M bw cb M.an M.cn (afW M.ws K o) M.ns
theorem Two.tA {N : Nt} {L M : Ly} {i j K F : Nat} {o : Nat → Nat} (T : Two N L M i j K F o) (hz : chE N = 0) : Tkn L (orW L.ws F o) (orN L.ns o) := by
  have h1 := T.ij
  obtain ⟨q1, q2, q3, q4, q5, q6, q7, q8⟩ := nm_layer hz (show i < N.ml by omega) (by rw [T.l]; exact T.mn)
  rw [T.l, ← T.f] at *
  have := T.k
  exact or_tkn T.prm q4 (by rw [q5, this]; rfl) (by omega)
theorem Two.tB {N : Nt} {L M : Ly} {i j K F : Nat} {o : Nat → Nat} (T : Two N L M i j K F o) (hz : chE N = 0) : Tkn M (afW M.ws K o) M.ns := by
  have h1 := T.ij
  obtain ⟨q1, q2, q3, q4, q5, q6, q7, q8⟩ := nm_layer hz (show i < N.ml by omega) (by rw [T.l]; exact T.mn)
  have hk := T.k
  rw [T.l] at q3
  obtain ⟨n, hn⟩ := chan_mw hz T.ij T.pool (by rw [T.m]; exact T.nj) (by rw [T.l]; exact hk) (by rw [T.l]; exact T.mn)
  rw [T.m] at hn
  exact af_tkn T.prm (by omega) hn
section
variable {N : Nt} {L M : Ly} {i j K F : Nat} {o : Nat → Nat} {aw an bw ua ub : Option Addr} {cw cn cb uc ud : Nat}
theorem Two.lj (T : Two N L M i j K F o) : (wiN N i (orA L F o aw cw an cn) ua uc).lf j = M := by
  have h1 := T.ij
  show sn N.lf i (orA L F o aw cw an cn) j = M
  unfold sn
  rw [if_neg (by omega), T.m]
theorem Two.ok (T : Two N L M i j K F o) (hz : chE N = 0) : chE (wiN (wiN N i (orA L F o aw cw an cn) ua uc) j (afB M K o bw cb) ub ud) = 0 :=
  re_ok (re_ok hz T.l (T.tA hz) ua uc) T.lj (T.tB hz) ub ud
theorem Two.sps (T : Two N L M i j K F o) (q : Nat) : sp (wiN (wiN N i (orA L F o aw cw an cn) ua uc) j (afB M K o bw cb) ub ud) q = sp N q := by
  rw [re_sp _ j T.lj, re_sp N i T.l]
theorem Two.ord (T : Two N L M i j K F o) : Ord N (wiN (wiN N i (orA L F o aw cw an cn) ua uc) j (afB M K o bw cb) ub ud) i j K o := by
  have h1 := T.ij
  refine ⟨fun q _ => T.sps q, fun q _ => by rw [re_fan _ j T.lj, re_fan N i T.l], fun q h2 h3 => ?_, T.ij, T.pool, by rw [T.m]; exact T.nj, T.prm, by rw [T.l]; exact T.k, by rw [T.l]; exact T.mn, ⟨aw, cw, an, cn, ?_⟩, ⟨bw, cb, M.an, M.cn, ?_⟩⟩
  · show sn (sn N.lf i _) j _ q = _
    unfold sn
    rw [if_neg h3, if_neg h2]
  · show sn (sn N.lf i _) j _ i = _
    unfold sn
    rw [if_neg (by omega), if_pos rfl, T.l, ← T.f]
  · show sn (sn N.lf i _) j _ j = _
    unfold sn
    rw [if_pos rfl, T.m]
end
/-- What Run answers of a network that fits. -/
theorem run_fits {N : Nt} (hz : chE N = 0) (hcw : ∀ j, j < N.ml → (N.lf j).mw ≤ (N.lf j).cw) {mx : Nat} (hsz : (mx : Int) = N.h * N.v * N.c) (ax : Option Addr) (cx : Nat) (f : Nat → Int) (w : World) (hN : NtW w N) (hx : RB w ax mx f) :
    Calls Tryz.prog 12 #[ntv N, .slice ax mx cx] w fun e w' => ∃ g cp, e = .returned (.tuple #[.agg #[.slice (some ⟨g, 0, none⟩) (szN N N.ml) cp, .int .i64 (grV (valN N (fun j => s8 (f j)) N.ml) (szN N N.ml))], .int .i64 0]) ∧ w.heap.size ≤ g ∧ R64 w' (some ⟨g, 0, none⟩) (szN N N.ml) (valN N (fun j => s8 (f j)) N.ml) ∧ Below w.heap.size w w' := by
  have hm : szN N 0 = mx := by
    have := sz_el hz (Nat.zero_le N.ml)
    have h2 : ((szN N 0 : Nat) : Int) = N.h * N.v * N.c := this
    rw [← hsz] at h2
    exact Int.ofNat.inj h2
  subst hm
  exact prun_all N hz hcw ax cx f (fun j hj => by obtain ⟨_, _, _, _, h1, h2⟩ := hx j hj; exact ⟨h1, by omega⟩) w hN hx
/-- The other network answers the same. -/
theorem Two.run {N : Nt} {L M : Ly} {i j K F : Nat} {o : Nat → Nat} {aw an bw ua ub : Option Addr} {cw cn cb uc ud : Nat} (T : Two N L M i j K F o) (hz : chE N = 0) (hcw : ∀ j, j < N.ml → (N.lf j).mw ≤ (N.lf j).cw) (ha : L.mw ≤ cw) (hb : M.mw ≤ cb) {mx : Nat} (hsz : (mx : Int) = N.h * N.v * N.c) (ax : Option Addr) (cx : Nat) (f : Nat → Int) (w : World) (hN : NtW w (wiN (wiN N i (orA L F o aw cw an cn) ua uc) j (afB M K o bw cb) ub ud)) (hx : RB w ax mx f) :
    Calls Tryz.prog 12 #[ntv (wiN (wiN N i (orA L F o aw cw an cn) ua uc) j (afB M K o bw cb) ub ud), .slice ax mx cx] w fun e w' => ∃ g cp, e = .returned (.tuple #[.agg #[.slice (some ⟨g, 0, none⟩) (szN N N.ml) cp, .int .i64 (grV (valN N (fun j => s8 (f j)) N.ml) (szN N N.ml))], .int .i64 0]) ∧ w.heap.size ≤ g ∧ R64 w' (some ⟨g, 0, none⟩) (szN N N.ml) (valN N (fun j => s8 (f j)) N.ml) ∧ Below w.heap.size w w' := by
  refine (run_fits (T.ok hz) (fun q hq => ?_) hsz ax cx f w hN hx).mono fun e w' h => ?_
  · show (sn (sn N.lf i _) j _ q).mw ≤ (sn (sn N.lf i _) j _ q).cw
    unfold sn
    by_cases e1 : q = j
    · rw [if_pos e1]; exact hb
    · rw [if_neg e1]
      by_cases e2 : q = i
      · rw [if_pos e2]; exact ha
      · rw [if_neg e2]; exact hcw q hq
  · obtain ⟨g, cp, e1, h1, h2, h3⟩ := h
    have hs : szN (wiN (wiN N i (orA L F o aw cw an cn) ua uc) j (afB M K o bw cb) ub ud) N.ml = szN N N.ml := by unfold szN cN; rw [T.sps]
    have hv := ord_val hz (T.ord (aw := aw) (cw := cw) (an := an) (cn := cn) (ua := ua) (uc := uc) (bw := bw) (cb := cb) (ub := ub) (ud := ud)) (fun j => s8 (f j))
    have e1 : e = .returned (.tuple #[.agg #[.slice (some ⟨g, 0, none⟩) (szN (wiN (wiN N i (orA L F o aw cw an cn) ua uc) j (afB M K o bw cb) ub ud) N.ml) cp, .int .i64 (grV (valN (wiN (wiN N i (orA L F o aw cw an cn) ua uc) j (afB M K o bw cb) ub ud) (fun j => s8 (f j)) N.ml) (szN (wiN (wiN N i (orA L F o aw cw an cn) ua uc) j (afB M K o bw cb) ub ud) N.ml))], .int .i64 0]) := e1
    have h2 : R64 w' (some ⟨g, 0, none⟩) (szN (wiN (wiN N i (orA L F o aw cw an cn) ua uc) j (afB M K o bw cb) ub ud) N.ml) (valN (wiN (wiN N i (orA L F o aw cw an cn) ua uc) j (afB M K o bw cb) ub ud) (fun j => s8 (f j)) N.ml) := h2
    rw [hs] at e1 h2
    rw [gr_congr hv] at e1
    refine ⟨g, cp, e1, h1, fun k hk => ?_, h3⟩
    obtain ⟨g', o', e2, c⟩ := h2 k hk
    rw [hv k hk] at c
    exact ⟨g', o', e2, c⟩
/-- The layers that are made lie in memory. -/
theorem orA_lst {W : World} {base g F : Nat} {L : Ly} {o : Nat → Nat} {aw an : Option Addr} {cw cn : Nat} (h : OrM W base g L F o aw L.mw cw an L.mn cn) (hm : 1 ≤ L.mw ∧ L.mw ≤ 16777216) (hn : 1 ≤ L.mn ∧ L.mn ≤ 4096) (hl : Lst W L) : Lst W (orA L F o aw cw an cn) :=
  TuM.lst (show TuM W base g L aw cw an cn (orW L.ws F o) (nrO L.ns o) from h) hm hn hl.2.2.1 hl.2.2.2.2.2 ⟨rfl, rfl, rfl, rfl⟩ ⟨rfl, rfl, rfl⟩ (fun _ _ => rfl) (fun j _ c hc => by
    show L.ns (o j) c = nrO L.ns o (j * 8 + c)
    unfold nrO
    rw [show (j * 8 + c) / 8 = j by omega, show (j * 8 + c) % 8 = c by omega])
theorem afB_lst {W : World} {base g K : Nat} {M : Ly} {o : Nat → Nat} {bw : Option Addr} {cb : Nat} (h : AfM W base g M bw cb (afW M.ws K o)) (hm : 1 ≤ M.mw) (hl : Lst W M) : Lst W (afB M K o bw cb) := by
  obtain ⟨q, e, -, -, -, hc⟩ := own_cellsS h.2 hm
  refine ⟨fun j hj => ⟨q, 0, e, ?_⟩, hl.2.1, hl.2.2.1, hl.2.2.2.1, hl.2.2.2.2.1, hl.2.2.2.2.2⟩
  have hj : j < M.mw := hj
  rw [Nat.zero_add, hc j (by omega), clT_at hj]
end Go.Proofs.YtlgjoepeibodkaaGreat.Nn
/- PLAINORDER: the end of the walk. -/
namespace Go.Proofs.YtlgjoepeibodkaaGreat.Nn
open Go.RowKit

noncomputable def poT : Code := (Tryz.f4.body.bind (fromP (isReg 25))).getD .skip
attribute [local go_sem ↓] Go.wp_at_zero Go.wp_at_succ
set_option maxHeartbeats 12800000 in
set_option maxRecDepth 100000 in
theorem po_tail (u0 u2 u3 u5 u6 u7 u8 u11 u12 u13 u16 u17 u18 u19 u20 u21 u22 u23 u24 u25 u26 u27 u28 u29 u30 u31 u32 u33 u34 u35 u36 u37 u38 u39 u40 u41 u42 u43 u44 u45 u46 u47 u48 u49 u50 u51 u52 u53 u54 u55 u56 u57 u58 u59 u60 u61 u62 u63 u64 u65 u66 u67 u68 u69 u70 u71 u72 u73 u74 u75 u76 u77 u78 u79 u80 u81 u82 u83 u84 u85 u86 u87 u88 u89 u90 u91 u92 u93 u94 u95 u96 u97 u98 u99 u100 u101 u102 u103 u104 u105 u106 u107 u108 u109 u110 u111 u112 u113 u114 u115 u116 u117 u118 u119 u120 u121 u122 u123 u124 u125 u126 u127 u128 u129 u130 u131 u132 u133 u134 u135 u136 u137 u138 u139 u140 u141 u142 u143 u144 u145 u146 u147 u148 u149 u150 u151 u152 u153 u154 u155 u156 u157 u158 u159 u160 u161 u162 u163 u164 u165 u166 u167 u168 u169 u170 u171 u172 u173 u174 u175 u176 u177 u178 u179 : Value) (N : Nt) (L M : Ly) (b g14 g15 i j K F base base2 mx cx : Nat) (ax : Option Addr) (f : Nat → Int) (o : Nat → Nat) (aw an bw : Option Addr) (cw cn cb : Nat) (w W6 : World) (Q : Exit → Act → World → Prop) (HR : Hid (W6.rowIs b 26 5 (netF N.nm N.h N.v N.c (.slice N.al N.ml N.cl)))) (HA : Hid (OrM W6 base g14 L F o aw L.mw cw an L.mn cn)) (HAF : Hid (AfM W6 base2 g15 M bw cb (afW M.ws K o))) (HB : Hid (Below w.heap.size w W6)) (HN : Hid (NtW w N)) (HX : Hid (RB w ax mx f)) (HCW : Hid (∀ j, j < N.ml → (N.lf j).mw ≤ (N.lf j).cw)) (HZ : Hid (chE N = 0)) (HTW : Hid (Two N L M i j K F o)) (HM : Hid ((1 ≤ L.mw ∧ L.mw ≤ 16777216) ∧ (1 ≤ L.mn ∧ L.mn ≤ 4096) ∧ 1 ≤ M.mw)) (HSZ : Hid ((mx : Int) = N.h * N.v * N.c))
    (hQ : Hid (∀ (X' : World) (v19 v20 v21 v22 v151 v152 v153 v154 v155 v156 v157 v158 v159 v160 v161 v162 v163 v164 v165 v166 v167 v168 v169 v170 v171 v172 v173 v174 v175 v176 v177 v178 v179 : Value), Below w.heap.size w X' → Q .ret ⟨#[u0, .slice ax mx cx, u2, u3, .pointer (some ⟨b, 0, none⟩), u5, u6, u7, .bool true, .int .i64 (i : Int), .int .i64 (j : Int), u11, u12, u13, .pointer (some ⟨g14, 0, none⟩), .pointer (some ⟨g15, 0, none⟩), u16, u17, u18, v19, v20, v21, v22, u23, u24, u25, u26, u27, u28, u29, u30, u31, u32, u33, u34, u35, u36, u37, u38, u39, u40, u41, u42, u43, u44, u45, u46, u47, u48, u49, u50, u51, u52, u53, u54, u55, u56, u57, u58, u59, u60, u61, u62, u63, u64, u65, u66, u67, u68, u69, u70, u71, u72, u73, u74, u75, u76, u77, u78, u79, u80, u81, u82, u83, u84, u85, u86, u87, u88, u89, u90, u91, u92, u93, u94, u95, u96, u97, u98, u99, u100, u101, u102, u103, u104, u105, u106, u107, u108, u109, u110, u111, u112, u113, u114, u115, u116, u117, u118, u119, u120, u121, u122, u123, u124, u125, u126, u127, u128, u129, u130, u131, u132, u133, u134, u135, u136, u137, u138, u139, u140, u141, u142, u143, u144, u145, u146, u147, u148, u149, u150, v151, v152, v153, v154, v155, v156, v157, v158, v159, v160, v161, v162, v163, v164, v165, v166, v167, v168, v169, v170, v171, v172, v173, v174, v175, v176, v177, v178, v179], []⟩ X')) :
    Code.wp Tryz.prog poT Q ⟨#[u0, .slice ax mx cx, u2, u3, .pointer (some ⟨b, 0, none⟩), u5, u6, u7, u8, .int .i64 (i : Int), .int .i64 (j : Int), u11, u12, u13, .pointer (some ⟨g14, 0, none⟩), .pointer (some ⟨g15, 0, none⟩), u16, u17, u18, u19, u20, u21, u22, u23, u24, u25, u26, u27, u28, u29, u30, u31, u32, u33, u34, u35, u36, u37, u38, u39, u40, u41, u42, u43, u44, u45, u46, u47, u48, u49, u50, u51, u52, u53, u54, u55, u56, u57, u58, u59, u60, u61, u62, u63, u64, u65, u66, u67, u68, u69, u70, u71, u72, u73, u74, u75, u76, u77, u78, u79, u80, u81, u82, u83, u84, u85, u86, u87, u88, u89, u90, u91, u92, u93, u94, u95, u96, u97, u98, u99, u100, u101, u102, u103, u104, u105, u106, u107, u108, u109, u110, u111, u112, u113, u114, u115, u116, u117, u118, u119, u120, u121, u122, u123, u124, u125, u126, u127, u128, u129, u130, u131, u132, u133, u134, u135, u136, u137, u138, u139, u140, u141, u142, u143, u144, u145, u146, u147, u148, u149, u150, u151, u152, u153, u154, u155, u156, u157, u158, u159, u160, u161, u162, u163, u164, u165, u166, u167, u168, u169, u170, u171, u172, u173, u174, u175, u176, u177, u178, u179], []⟩ W6 := by
  conv => arg 2; whnf
  have CT := hid1 (run_fits HZ.out HCW.out HSZ.out ax cx f W6 (HN.out.keep HB.out) (HX.out.keep HB.out))
  obtain ⟨z, hz⟩ : ∃ z : Int, (grV (valN N (fun j => s8 (f j)) N.ml) (szN N N.ml) : Int) = z := ⟨_, rfl⟩
  obtain ⟨sz, hsz⟩ : ∃ sz, szN N N.ml = sz := ⟨_, rfl⟩
  obtain ⟨val, hval⟩ : ∃ val, (valN N (fun j => s8 (f j)) N.ml) = val := ⟨_, rfl⟩
  have HZZ := hid1 hz
  have HSS := hid1 hsz
  have HVV := hid1 hval
  have hs24 : Hid (sz ≤ 9223372036854775807) := hid1 (by
    rw [← HSS.out]
    have h1 := sz_el HZ.out (Nat.le_refl N.ml)
    have h2 := (el_sp HZ.out (Nat.le_refl N.ml)).2.2
    omega)
  rw [hz, hsz, hval] at CT
  clear hz hsz hval
  have n0 : W6.cell? ⟨b, 0, none⟩ = some (.string N.nm) := HR.out.cell (i := 0) (by decide)
  have n1 : W6.cell? ⟨b, 1, none⟩ = some (.int .i64 N.h) := HR.out.cell (i := 1) (by decide)
  have n2 : W6.cell? ⟨b, 2, none⟩ = some (.int .i64 N.v) := HR.out.cell (i := 2) (by decide)
  have n3 : W6.cell? ⟨b, 3, none⟩ = some (.int .i64 N.c) := HR.out.cell (i := 3) (by decide)
  have n4 : W6.cell? ⟨b, 4, none⟩ = some (.slice N.al N.ml N.cl) := HR.out.cell (i := 4) (by decide)
  go_wp2_with fail
  refine CT.out.mono ?_
  rintro e y1 ⟨g1, c1, rfl, hg1, S1, b1⟩
  clear CT n0 n1 n2 n3 n4
  have HR1 := hid1 (World.rowIs.of_block HR.out (b1.block _ HR.out.lt))
  have HA1 := hid1 (HA.out.keep b1)
  have HAF1 := hid1 (HAF.out.keep b1)
  have HS1 := hid1 S1
  have HB1 := hid1 (bl_step HB.out b1)
  have HG1 := hid1 hg1
  clear S1 b1 hg1 HA HAF HR HB
  go_upto_region 26 with fail
  refine gen_world (fun X => X.rowIs y1.heap.size 54 2 (resF (some ⟨g1, 0, none⟩) sz c1 z) ∧ R64 X (some ⟨g1, 0, none⟩) sz val ∧ X.rowIs b 26 5 (netF N.nm N.h N.v N.c (.slice N.al N.ml N.cl)) ∧ OrM X base g14 L F o aw L.mw cw an L.mn cn ∧ AfM X base2 g15 M bw cb (afW M.ws K o) ∧ Below w.heap.size w X) ⟨res_new y1 _ _ _ _, r64_keep HS1.out (bl_alloc (Below.refl _ _) _), HR1.out.alloc _, HA1.out.keep (bl_alloc (Below.refl _ _) _), HAF1.out.keep (bl_alloc (Below.refl _ _) _), bl_alloc HB1.out _⟩ ?_
  rintro Z ⟨RR, S1, R1, A1, AF1, B1⟩
  have HRR := hid1 RR
  have HS2 := hid1 S1
  have HB2 := hid1 B1
  have HN5 : Hid ((Z.cell? ⟨b, 0, none⟩ = some (.string N.nm) ∧ Z.cell? ⟨b, 1, none⟩ = some (.int .i64 N.h) ∧ Z.cell? ⟨b, 2, none⟩ = some (.int .i64 N.v) ∧ Z.cell? ⟨b, 3, none⟩ = some (.int .i64 N.c) ∧ Z.cell? ⟨b, 4, none⟩ = some (.slice N.al N.ml N.cl))) := hid1 ⟨R1.cell (i := 0) (by decide), R1.cell (i := 1) (by decide), R1.cell (i := 2) (by decide), R1.cell (i := 3) (by decide), R1.cell (i := 4) (by decide)⟩
  have HLA : Hid (Lp Z g14 (orA L F o aw cw an cn)) := hid1 (lyf_cells (L := orA L F o aw cw an cn) A1.1)
  have HLB : Hid (Lp Z g15 (afB M K o bw cb)) := hid1 (lyf_cells (L := afB M K o bw cb) AF1.1)
  have HA2 := hid1 A1
  have HAF2 := hid1 AF1
  clear RR S1 R1 A1 AF1 B1 HR1 HA1 HAF1 HS1 HB1 HG1
  have hm64 := (wh_parts (fl_all HZ.out).1).2.2
  have HW1 := hid1 (fun (X : World) (hX : Below Z.heap.size Z X) => with_any N i (by have := HTW.out.ij; omega) hm64.2 (orA L F o aw cw an cn) X (HN.out.keep (bl_step HB2.out hX)) (orA_lst (HA2.out.keep hX) HM.out.1 HM.out.2.1 (by
    obtain ⟨_, _, _, _, h⟩ := (HN.out.keep (bl_step HB2.out hX)).1 i (by have := HTW.out.ij; omega)
    rw [HTW.out.l] at h
    exact h)))
  have HW2 := hid1 (fun (ua : Option Addr) (uc : Nat) (X : World) (hN1 : NtW X (wiN N i (orA L F o aw cw an cn) ua uc)) (hX : Below Z.heap.size Z X) => with_any (wiN N i (orA L F o aw cw an cn) ua uc) j HTW.out.ij.2 hm64.2 (afB M K o bw cb) X hN1 (afB_lst (HAF2.out.keep hX) HM.out.2.2 (by
    obtain ⟨_, _, _, _, h⟩ := (HN.out.keep (bl_step HB2.out hX)).1 j HTW.out.ij.2
    rw [HTW.out.m] at h
    exact h)))
  have HR3 := hid1 (fun (ua : Option Addr) (uc : Nat) (ub : Option Addr) (ud : Nat) (X : World) (hN2 : NtW X (wiN (wiN N i (orA L F o aw cw an cn) ua uc) j (afB M K o bw cb) ub ud)) (hX : Below Z.heap.size Z X) => HTW.out.run HZ.out HCW.out (by obtain ⟨_, _, h, _⟩ := own_cellsS HA2.out.2.1 HM.out.1.1; exact h) (by obtain ⟨_, _, h, _⟩ := own_cellsS HAF2.out.2 HM.out.2.2; exact h) HSZ.out ax cx f X hN2 (HX.out.keep (bl_step HB2.out hX)))
  rw [HZZ.out, HSS.out, HVV.out] at HR3
  refine po_r26 _ _ _ _ _ _ _ _ _ _ _ _ _ _ _ _ _ _ _ _ _ _ _ _ _ _ _ _ _ _ _ _ _ _ _ _ _ _ _ _ _ _ _ _ _ _ _ _ _ _ _ _ _ _ _ _ _ _ _ _ _ _ _ _ _ _ _ _ _ _ _ _ _ _ _ _ _ _ _ _ _ _ _ _ _ _ _ _ _ _ _ _ _ _ _ _ _ _ _ _ _ _ _ _ _ _ _ _ _ _ _ _ _ _ _ _ _ _ _ _ _ _ _ _ _ _ _ _ _ _ _ _ _ _ _ _ _ _ _ _ _ _ _ _ _ _ _ _ _ _ _ _ _ _ _ _ _ _ _ _ _ _ _ _ _ _ _ _ _ _ _ _ _ _ b g14 g15 i j mx cx sz ax N (orA L F o aw cw an cn) (afB M K o bw cb) z val Z _ HN5 HLA HLB HW1 HW2 HR3 (hid1 ?_)
  intro X3 p g2 c2 v157 v158 v159 v160 v161 v162 v163 v164 v165 v166 v167 v168 RP SP B3
  have RQ := World.rowIs.of_block HRR.out (B3.block _ HRR.out.lt)
  have CS := hid1 (results_same sz val z (some ⟨g1, 0, none⟩) (some ⟨g2, 0, none⟩) c1 c2 X3 hs24.out (r64_keep HS2.out B3) SP)
  have HB3 := hid1 (bl_step HB2.out B3)
  have r0 : X3.cell? ⟨y1.heap.size, 0, none⟩ = some (.slice (some ⟨g1, 0, none⟩) sz c1) := RQ.cell (i := 0) (by decide)
  have r1 : X3.cell? ⟨y1.heap.size, 1, none⟩ = some (.int .i64 z) := RQ.cell (i := 1) (by decide)
  have t0 : X3.cell? ⟨p, 0, none⟩ = some (.slice (some ⟨g2, 0, none⟩) sz c2) := RP.cell (i := 0) (by decide)
  have t1 : X3.cell? ⟨p, 1, none⟩ = some (.int .i64 z) := RP.cell (i := 1) (by decide)
  clear RP SP B3 RQ HRR HS2 HB2 HN5 HLA HLB HA2 HAF2 HW1 HW2 HR3
  go_wp2_with fail
  refine CS.out.mono ?_
  rintro e y4 ⟨rfl, b4⟩
  have HB4 := hid1 (bl_step HB3.out b4)
  clear b4 CS HB3
  go_wp2_with fail
  exact hQ.out _ _ _ _ _ _ _ _ _ _ _ _ _ _ _ _ _ _ _ _ _ _ _ _ _ _ _ _ _ _ _ _ _ _ HB4.out
end Go.Proofs.YtlgjoepeibodkaaGreat.Nn
/- PLAINORDER: two layers laid into boxes. -/
namespace Go.Proofs.YtlgjoepeibodkaaGreat.Nn
open Go.RowKit

theorem lc_keep {W Y : World} {g o : Nat} {L : Ly} (h : Lc W g o L) (hb : Below W.heap.size W Y) : Lc Y g o L := by
  obtain ⟨c0, c1, c2, c3, c4, c5, c6, c7, c8, c9, c10, c11, c12, c13, c14⟩ := h
  exact ⟨keepc hb c0, keepc hb c1, keepc hb c2, keepc hb c3, keepc hb c4, keepc hb c5, keepc hb c6, keepc hb c7, keepc hb c8, keepc hb c9, keepc hb c10, keepc hb c11, keepc hb c12, keepc hb c13, keepc hb c14⟩
theorem kp9 {W Y : World} {g o1 o2 b : Nat} {L M : Ly} {v : Value} (h1 : Lc W g o1 L) (h2 : Lc W g o2 M) (h3 : W.cell? ⟨b, 4, none⟩ = some v) (hb : Below W.heap.size W Y) : (Y.cell? ⟨g, o1, none⟩ = some (.int .i64 L.kd) ∧ Y.cell? ⟨g, o1 + 1, none⟩ = some (.int .i64 L.wt) ∧ Y.cell? ⟨g, o1 + 2, none⟩ = some (.int .i64 L.k) ∧ Y.cell? ⟨g, o1 + 3, none⟩ = some (.int .i64 L.r) ∧ Y.cell? ⟨g, o1 + 4, none⟩ = some (.int .i64 L.s) ∧ Y.cell? ⟨g, o1 + 5, none⟩ = some (.int .i64 L.sy) ∧ Y.cell? ⟨g, o1 + 6, none⟩ = some (.int .i64 L.sx) ∧ Y.cell? ⟨g, o1 + 7, none⟩ = some (.int .i64 L.t) ∧ Y.cell? ⟨g, o1 + 8, none⟩ = some (.int .i64 L.l) ∧ Y.cell? ⟨g, o1 + 9, none⟩ = some (.int .i64 L.b) ∧ Y.cell? ⟨g, o1 + 10, none⟩ = some (.int .i64 L.q) ∧ Y.cell? ⟨g, o1 + 11, none⟩ = some (.int .i64 L.bd) ∧ Y.cell? ⟨g, o1 + 12, none⟩ = some (.slice L.aw L.mw L.cw) ∧ Y.cell? ⟨g, o1 + 13, none⟩ = some (.slice L.an L.mn L.cn) ∧ Y.cell? ⟨g, o1 + 14, none⟩ = some (.slice L.ab L.mb L.cb)) ∧ (Y.cell? ⟨g, o2, none⟩ = some (.int .i64 M.kd) ∧ Y.cell? ⟨g, o2 + 1, none⟩ = some (.int .i64 M.wt) ∧ Y.cell? ⟨g, o2 + 2, none⟩ = some (.int .i64 M.k) ∧ Y.cell? ⟨g, o2 + 3, none⟩ = some (.int .i64 M.r) ∧ Y.cell? ⟨g, o2 + 4, none⟩ = some (.int .i64 M.s) ∧ Y.cell? ⟨g, o2 + 5, none⟩ = some (.int .i64 M.sy) ∧ Y.cell? ⟨g, o2 + 6, none⟩ = some (.int .i64 M.sx) ∧ Y.cell? ⟨g, o2 + 7, none⟩ = some (.int .i64 M.t) ∧ Y.cell? ⟨g, o2 + 8, none⟩ = some (.int .i64 M.l) ∧ Y.cell? ⟨g, o2 + 9, none⟩ = some (.int .i64 M.b) ∧ Y.cell? ⟨g, o2 + 10, none⟩ = some (.int .i64 M.q) ∧ Y.cell? ⟨g, o2 + 11, none⟩ = some (.int .i64 M.bd) ∧ Y.cell? ⟨g, o2 + 12, none⟩ = some (.slice M.aw M.mw M.cw) ∧ Y.cell? ⟨g, o2 + 13, none⟩ = some (.slice M.an M.mn M.cn) ∧ Y.cell? ⟨g, o2 + 14, none⟩ = some (.slice M.ab M.mb M.cb)) ∧ Y.cell? ⟨b, 4, none⟩ = some v := ⟨lc_keep h1 hb, lc_keep h2 hb, keepc hb h3⟩
theorem kp11 {W Y : World} {g h : Nat} {L M : Ly} (h1 : Lp W g L) (h2 : Lp W h M) (hb : Below W.heap.size W Y) : (Y.cell? ⟨g, 0, none⟩ = some (.int .i64 L.kd) ∧ Y.cell? ⟨g, 1, none⟩ = some (.int .i64 L.wt) ∧ Y.cell? ⟨g, 2, none⟩ = some (.int .i64 L.k) ∧ Y.cell? ⟨g, 3, none⟩ = some (.int .i64 L.r) ∧ Y.cell? ⟨g, 4, none⟩ = some (.int .i64 L.s) ∧ Y.cell? ⟨g, 5, none⟩ = some (.int .i64 L.sy) ∧ Y.cell? ⟨g, 6, none⟩ = some (.int .i64 L.sx) ∧ Y.cell? ⟨g, 7, none⟩ = some (.int .i64 L.t) ∧ Y.cell? ⟨g, 8, none⟩ = some (.int .i64 L.l) ∧ Y.cell? ⟨g, 9, none⟩ = some (.int .i64 L.b) ∧ Y.cell? ⟨g, 10, none⟩ = some (.int .i64 L.q) ∧ Y.cell? ⟨g, 11, none⟩ = some (.int .i64 L.bd) ∧ Y.cell? ⟨g, 12, none⟩ = some (.slice L.aw L.mw L.cw) ∧ Y.cell? ⟨g, 13, none⟩ = some (.slice L.an L.mn L.cn) ∧ Y.cell? ⟨g, 14, none⟩ = some (.slice L.ab L.mb L.cb)) ∧ (Y.cell? ⟨h, 0, none⟩ = some (.int .i64 M.kd) ∧ Y.cell? ⟨h, 1, none⟩ = some (.int .i64 M.wt) ∧ Y.cell? ⟨h, 2, none⟩ = some (.int .i64 M.k) ∧ Y.cell? ⟨h, 3, none⟩ = some (.int .i64 M.r) ∧ Y.cell? ⟨h, 4, none⟩ = some (.int .i64 M.s) ∧ Y.cell? ⟨h, 5, none⟩ = some (.int .i64 M.sy) ∧ Y.cell? ⟨h, 6, none⟩ = some (.int .i64 M.sx) ∧ Y.cell? ⟨h, 7, none⟩ = some (.int .i64 M.t) ∧ Y.cell? ⟨h, 8, none⟩ = some (.int .i64 M.l) ∧ Y.cell? ⟨h, 9, none⟩ = some (.int .i64 M.b) ∧ Y.cell? ⟨h, 10, none⟩ = some (.int .i64 M.q) ∧ Y.cell? ⟨h, 11, none⟩ = some (.int .i64 M.bd) ∧ Y.cell? ⟨h, 12, none⟩ = some (.slice M.aw M.mw M.cw) ∧ Y.cell? ⟨h, 13, none⟩ = some (.slice M.an M.mn M.cn) ∧ Y.cell? ⟨h, 14, none⟩ = some (.slice M.ab M.mb M.cb)) := ⟨h1.keep hb, h2.keep hb⟩
theorem ly_rowT {W : World} {g : Nat} {L : Ly} (h : W.heap[g]? = some (lyo L)) : W.rowIs g 38 15 (lyf L) := ⟨_, h, rfl, fun i hi => by
  rcases (show i = 0 ∨ i = 1 ∨ i = 2 ∨ i = 3 ∨ i = 4 ∨ i = 5 ∨ i = 6 ∨ i = 7 ∨ i = 8 ∨ i = 9 ∨ i = 10 ∨ i = 11 ∨ i = 12 ∨ i = 13 ∨ i = 14 by omega) with rfl | rfl | rfl | rfl | rfl | rfl | rfl | rfl | rfl | rfl | rfl | rfl | rfl | rfl | rfl <;> rfl⟩
theorem two0 {Z : World} {o1 o2 : Obj} : ((Z.alloc o1).alloc o2).drew.heap[Z.heap.size]? = some o1 := old_at (new_at rfl _) _
theorem two1 {Z : World} {o1 o2 : Obj} : ((Z.alloc o1).alloc o2).drew.heap[Z.heap.size + 1]? = some o2 := new_at (by simp) _
noncomputable def poR11 : Code := (Tryz.f4.body.bind (regionOf 11)).getD .skip
attribute [local go_sem ↓] Go.wp_at_zero Go.wp_at_succ
set_option maxHeartbeats 12800000 in
set_option maxRecDepth 100000 in
theorem po_r11 (u0 u1 u2 u3 u4 u5 u6 u7 u8 u9 u10 u13 u14 u15 u16 u17 u18 u19 u20 u21 u22 u23 u24 u25 u26 u27 u28 u29 u30 u31 u32 u33 u34 u35 u36 u37 u38 u39 u40 u41 u42 u43 u44 u45 u46 u47 u48 u49 u50 u51 u52 u53 u54 u55 u56 u57 u58 u59 u60 u61 u62 u63 u64 u65 u66 u67 u68 u69 u70 u71 u72 u73 u74 u75 u76 u77 u78 u79 u80 u81 u82 u83 u84 u85 u86 u87 u88 u89 u90 u91 u92 u93 u94 u95 u96 u97 u98 u99 u100 u101 u102 u103 u104 u105 u106 u107 u108 u109 u110 u111 u112 u113 u114 u115 u116 u117 u118 u119 u120 u121 u122 u123 u124 u125 u126 u127 u128 u129 u130 u131 u132 u133 u134 u135 u136 u137 u138 u139 u140 u141 u142 u143 u144 u145 u146 u147 u148 u149 u150 u151 u152 u153 u154 u155 u156 u157 u158 u159 u160 u161 u162 u163 u164 u165 u166 u167 u168 u169 u170 u171 u172 u173 u174 u175 u176 u177 u178 u179 : Value) (g11 g12 : Nat) (L M : Ly) (Z : World) (Q : Exit → Act → World → Prop) (HL : Hid (Lp Z g11 L)) (HM : Hid (Lp Z g12 M))
    (hQ : Hid (∀ (X : World) (p q : Nat) (v69 v70 : Value), X.rowIs p 38 15 (lyf L) → X.rowIs q 38 15 (lyf M) → p ≠ q → Z.heap.size ≤ p → Z.heap.size ≤ q → Below Z.heap.size Z X → Q .normal ⟨#[u0, u1, u2, u3, u4, u5, u6, u7, u8, u9, u10, .pointer (some ⟨g11, 0, none⟩), .pointer (some ⟨g12, 0, none⟩), u13, .pointer (some ⟨p, 0, none⟩), .pointer (some ⟨q, 0, none⟩), u16, u17, u18, u19, u20, u21, u22, u23, u24, u25, u26, u27, u28, u29, u30, u31, u32, u33, u34, u35, u36, u37, u38, u39, u40, u41, u42, u43, u44, u45, u46, u47, u48, u49, u50, u51, u52, u53, u54, u55, u56, u57, u58, u59, u60, u61, u62, u63, u64, u65, u66, u67, u68, v69, v70, u71, u72, u73, u74, u75, u76, u77, u78, u79, u80, u81, u82, u83, u84, u85, u86, u87, u88, u89, u90, u91, u92, u93, u94, u95, u96, u97, u98, u99, u100, u101, u102, u103, u104, u105, u106, u107, u108, u109, u110, u111, u112, u113, u114, u115, u116, u117, u118, u119, u120, u121, u122, u123, u124, u125, u126, u127, u128, u129, u130, u131, u132, u133, u134, u135, u136, u137, u138, u139, u140, u141, u142, u143, u144, u145, u146, u147, u148, u149, u150, u151, u152, u153, u154, u155, u156, u157, u158, u159, u160, u161, u162, u163, u164, u165, u166, u167, u168, u169, u170, u171, u172, u173, u174, u175, u176, u177, u178, u179], []⟩ X)) :
    Code.wp Tryz.prog poR11 Q ⟨#[u0, u1, u2, u3, u4, u5, u6, u7, u8, u9, u10, .pointer (some ⟨g11, 0, none⟩), .pointer (some ⟨g12, 0, none⟩), u13, u14, u15, u16, u17, u18, u19, u20, u21, u22, u23, u24, u25, u26, u27, u28, u29, u30, u31, u32, u33, u34, u35, u36, u37, u38, u39, u40, u41, u42, u43, u44, u45, u46, u47, u48, u49, u50, u51, u52, u53, u54, u55, u56, u57, u58, u59, u60, u61, u62, u63, u64, u65, u66, u67, u68, u69, u70, u71, u72, u73, u74, u75, u76, u77, u78, u79, u80, u81, u82, u83, u84, u85, u86, u87, u88, u89, u90, u91, u92, u93, u94, u95, u96, u97, u98, u99, u100, u101, u102, u103, u104, u105, u106, u107, u108, u109, u110, u111, u112, u113, u114, u115, u116, u117, u118, u119, u120, u121, u122, u123, u124, u125, u126, u127, u128, u129, u130, u131, u132, u133, u134, u135, u136, u137, u138, u139, u140, u141, u142, u143, u144, u145, u146, u147, u148, u149, u150, u151, u152, u153, u154, u155, u156, u157, u158, u159, u160, u161, u162, u163, u164, u165, u166, u167, u168, u169, u170, u171, u172, u173, u174, u175, u176, u177, u178, u179], []⟩ Z := by
  conv => arg 2; whnf
  have hfo := followsP
  refine wp_region_noPanic ?_
  go_region_held3 (fun Y => (Y.cell? ⟨g11, 0, none⟩ = some (.int .i64 L.kd) ∧ Y.cell? ⟨g11, 1, none⟩ = some (.int .i64 L.wt) ∧ Y.cell? ⟨g11, 2, none⟩ = some (.int .i64 L.k) ∧ Y.cell? ⟨g11, 3, none⟩ = some (.int .i64 L.r) ∧ Y.cell? ⟨g11, 4, none⟩ = some (.int .i64 L.s) ∧ Y.cell? ⟨g11, 5, none⟩ = some (.int .i64 L.sy) ∧ Y.cell? ⟨g11, 6, none⟩ = some (.int .i64 L.sx) ∧ Y.cell? ⟨g11, 7, none⟩ = some (.int .i64 L.t) ∧ Y.cell? ⟨g11, 8, none⟩ = some (.int .i64 L.l) ∧ Y.cell? ⟨g11, 9, none⟩ = some (.int .i64 L.b) ∧ Y.cell? ⟨g11, 10, none⟩ = some (.int .i64 L.q) ∧ Y.cell? ⟨g11, 11, none⟩ = some (.int .i64 L.bd) ∧ Y.cell? ⟨g11, 12, none⟩ = some (.slice L.aw L.mw L.cw) ∧ Y.cell? ⟨g11, 13, none⟩ = some (.slice L.an L.mn L.cn) ∧ Y.cell? ⟨g11, 14, none⟩ = some (.slice L.ab L.mb L.cb)) ∧ (Y.cell? ⟨g12, 0, none⟩ = some (.int .i64 M.kd) ∧ Y.cell? ⟨g12, 1, none⟩ = some (.int .i64 M.wt) ∧ Y.cell? ⟨g12, 2, none⟩ = some (.int .i64 M.k) ∧ Y.cell? ⟨g12, 3, none⟩ = some (.int .i64 M.r) ∧ Y.cell? ⟨g12, 4, none⟩ = some (.int .i64 M.s) ∧ Y.cell? ⟨g12, 5, none⟩ = some (.int .i64 M.sy) ∧ Y.cell? ⟨g12, 6, none⟩ = some (.int .i64 M.sx) ∧ Y.cell? ⟨g12, 7, none⟩ = some (.int .i64 M.t) ∧ Y.cell? ⟨g12, 8, none⟩ = some (.int .i64 M.l) ∧ Y.cell? ⟨g12, 9, none⟩ = some (.int .i64 M.b) ∧ Y.cell? ⟨g12, 10, none⟩ = some (.int .i64 M.q) ∧ Y.cell? ⟨g12, 11, none⟩ = some (.int .i64 M.bd) ∧ Y.cell? ⟨g12, 12, none⟩ = some (.slice M.aw M.mw M.cw) ∧ Y.cell? ⟨g12, 13, none⟩ = some (.slice M.an M.mn M.cn) ∧ Y.cell? ⟨g12, 14, none⟩ = some (.slice M.ab M.mb M.cb)))
    (((try dsimp only); (with_reducible refine kp11 (W := Z) HL.out HM.out ?_); repeat (first | (with_reducible exact Below.refl _ _) | (with_reducible assumption) | (with_reducible refine Below.drew ?_) | (with_reducible refine bl_alloc ?_ _) | (with_reducible refine bl_set ?_ (by first | exact Nat.le_refl _ | simp | omega) _))))
    (fail)
  all_goals (refine NoPanic.normal ?_)
  all_goals (first | (refine hQ.out _ _ _ _ _ (ly_rowT (by with_reducible exact two0)) (ly_rowT (by with_reducible exact two1)) (by omega) (by omega) (by omega) (bl_alloc (bl_alloc (Below.refl _ _) _) _).drew) | (refine hQ.out _ _ _ _ _ (ly_rowT (by with_reducible exact two1)) (ly_rowT (by with_reducible exact two0)) (by omega) (by omega) (by omega) (bl_alloc (bl_alloc (Below.refl _ _) _) _).drew))
noncomputable def poR9 : Code := (Tryz.f4.body.bind (regionOf 9)).getD .skip
attribute [local go_sem ↓] Go.wp_at_zero Go.wp_at_succ
set_option maxHeartbeats 12800000 in
set_option maxRecDepth 100000 in
theorem po_r9 (u0 u1 u2 u3 u5 u6 u7 u8 u11 u12 u13 u14 u15 u16 u17 u18 u19 u20 u21 u22 u23 u24 u25 u26 u27 u28 u29 u30 u31 u32 u33 u34 u35 u36 u37 u38 u39 u40 u41 u42 u43 u44 u45 u46 u47 u48 u49 u50 u51 u52 u53 u54 u55 u56 u57 u58 u59 u60 u61 u62 u63 u64 u65 u66 u67 u68 u69 u70 u71 u72 u73 u74 u75 u76 u77 u78 u79 u80 u81 u82 u83 u84 u85 u86 u87 u88 u89 u90 u91 u92 u93 u94 u95 u96 u97 u98 u99 u100 u101 u102 u103 u104 u105 u106 u107 u108 u109 u110 u111 u112 u113 u114 u115 u116 u117 u118 u119 u120 u121 u122 u123 u124 u125 u126 u127 u128 u129 u130 u131 u132 u133 u134 u135 u136 u137 u138 u139 u140 u141 u142 u143 u144 u145 u146 u147 u148 u149 u150 u151 u152 u153 u154 u155 u156 u157 u158 u159 u160 u161 u162 u163 u164 u165 u166 u167 u168 u169 u170 u171 u172 u173 u174 u175 u176 u177 u178 u179 : Value) (b i j g o ml cl : Nat) (L M : Ly) (Z : World) (Q : Exit → Act → World → Prop) (HL : Hid (Lc Z g (o + i * 15) L)) (HM : Hid (Lc Z g (o + j * 15) M)) (HN : Hid (Z.cell? ⟨b, 4, none⟩ = some (.slice (some ⟨g, o, none⟩) ml cl))) (hi : (i : Int) < (ml : Int)) (hj : (j : Int) < (ml : Int))
    (hQ : Hid (∀ (X : World) (p q : Nat) (v55 v56 v57 v58 v59 v60 v61 v62 v63 v64 : Value), X.rowIs p 38 15 (lyf L) → X.rowIs q 38 15 (lyf M) → p ≠ q → Z.heap.size ≤ p → Z.heap.size ≤ q → Below Z.heap.size Z X → Q .normal ⟨#[u0, u1, u2, u3, .pointer (some ⟨b, 0, none⟩), u5, u6, u7, u8, .int .i64 (i : Int), .int .i64 (j : Int), .pointer (some ⟨p, 0, none⟩), .pointer (some ⟨q, 0, none⟩), u13, u14, u15, u16, u17, u18, u19, u20, u21, u22, u23, u24, u25, u26, u27, u28, u29, u30, u31, u32, u33, u34, u35, u36, u37, u38, u39, u40, u41, u42, u43, u44, u45, u46, u47, u48, u49, u50, u51, u52, u53, u54, v55, v56, v57, v58, v59, v60, v61, v62, v63, v64, u65, u66, u67, u68, u69, u70, u71, u72, u73, u74, u75, u76, u77, u78, u79, u80, u81, u82, u83, u84, u85, u86, u87, u88, u89, u90, u91, u92, u93, u94, u95, u96, u97, u98, u99, u100, u101, u102, u103, u104, u105, u106, u107, u108, u109, u110, u111, u112, u113, u114, u115, u116, u117, u118, u119, u120, u121, u122, u123, u124, u125, u126, u127, u128, u129, u130, u131, u132, u133, u134, u135, u136, u137, u138, u139, u140, u141, u142, u143, u144, u145, u146, u147, u148, u149, u150, u151, u152, u153, u154, u155, u156, u157, u158, u159, u160, u161, u162, u163, u164, u165, u166, u167, u168, u169, u170, u171, u172, u173, u174, u175, u176, u177, u178, u179], []⟩ X)) :
    Code.wp Tryz.prog poR9 Q ⟨#[u0, u1, u2, u3, .pointer (some ⟨b, 0, none⟩), u5, u6, u7, u8, .int .i64 (i : Int), .int .i64 (j : Int), u11, u12, u13, u14, u15, u16, u17, u18, u19, u20, u21, u22, u23, u24, u25, u26, u27, u28, u29, u30, u31, u32, u33, u34, u35, u36, u37, u38, u39, u40, u41, u42, u43, u44, u45, u46, u47, u48, u49, u50, u51, u52, u53, u54, u55, u56, u57, u58, u59, u60, u61, u62, u63, u64, u65, u66, u67, u68, u69, u70, u71, u72, u73, u74, u75, u76, u77, u78, u79, u80, u81, u82, u83, u84, u85, u86, u87, u88, u89, u90, u91, u92, u93, u94, u95, u96, u97, u98, u99, u100, u101, u102, u103, u104, u105, u106, u107, u108, u109, u110, u111, u112, u113, u114, u115, u116, u117, u118, u119, u120, u121, u122, u123, u124, u125, u126, u127, u128, u129, u130, u131, u132, u133, u134, u135, u136, u137, u138, u139, u140, u141, u142, u143, u144, u145, u146, u147, u148, u149, u150, u151, u152, u153, u154, u155, u156, u157, u158, u159, u160, u161, u162, u163, u164, u165, u166, u167, u168, u169, u170, u171, u172, u173, u174, u175, u176, u177, u178, u179], []⟩ Z := by
  conv => arg 2; whnf
  have hfo := followsP
  have i0 : (0 : Int) ≤ (i : Int) := by omega
  have j0 : (0 : Int) ≤ (j : Int) := by omega
  refine wp_region_noPanic ?_
  go_region_held3 (fun Y => (Y.cell? ⟨g, o + i * 15, none⟩ = some (.int .i64 L.kd) ∧ Y.cell? ⟨g, o + i * 15 + 1, none⟩ = some (.int .i64 L.wt) ∧ Y.cell? ⟨g, o + i * 15 + 2, none⟩ = some (.int .i64 L.k) ∧ Y.cell? ⟨g, o + i * 15 + 3, none⟩ = some (.int .i64 L.r) ∧ Y.cell? ⟨g, o + i * 15 + 4, none⟩ = some (.int .i64 L.s) ∧ Y.cell? ⟨g, o + i * 15 + 5, none⟩ = some (.int .i64 L.sy) ∧ Y.cell? ⟨g, o + i * 15 + 6, none⟩ = some (.int .i64 L.sx) ∧ Y.cell? ⟨g, o + i * 15 + 7, none⟩ = some (.int .i64 L.t) ∧ Y.cell? ⟨g, o + i * 15 + 8, none⟩ = some (.int .i64 L.l) ∧ Y.cell? ⟨g, o + i * 15 + 9, none⟩ = some (.int .i64 L.b) ∧ Y.cell? ⟨g, o + i * 15 + 10, none⟩ = some (.int .i64 L.q) ∧ Y.cell? ⟨g, o + i * 15 + 11, none⟩ = some (.int .i64 L.bd) ∧ Y.cell? ⟨g, o + i * 15 + 12, none⟩ = some (.slice L.aw L.mw L.cw) ∧ Y.cell? ⟨g, o + i * 15 + 13, none⟩ = some (.slice L.an L.mn L.cn) ∧ Y.cell? ⟨g, o + i * 15 + 14, none⟩ = some (.slice L.ab L.mb L.cb)) ∧ (Y.cell? ⟨g, o + j * 15, none⟩ = some (.int .i64 M.kd) ∧ Y.cell? ⟨g, o + j * 15 + 1, none⟩ = some (.int .i64 M.wt) ∧ Y.cell? ⟨g, o + j * 15 + 2, none⟩ = some (.int .i64 M.k) ∧ Y.cell? ⟨g, o + j * 15 + 3, none⟩ = some (.int .i64 M.r) ∧ Y.cell? ⟨g, o + j * 15 + 4, none⟩ = some (.int .i64 M.s) ∧ Y.cell? ⟨g, o + j * 15 + 5, none⟩ = some (.int .i64 M.sy) ∧ Y.cell? ⟨g, o + j * 15 + 6, none⟩ = some (.int .i64 M.sx) ∧ Y.cell? ⟨g, o + j * 15 + 7, none⟩ = some (.int .i64 M.t) ∧ Y.cell? ⟨g, o + j * 15 + 8, none⟩ = some (.int .i64 M.l) ∧ Y.cell? ⟨g, o + j * 15 + 9, none⟩ = some (.int .i64 M.b) ∧ Y.cell? ⟨g, o + j * 15 + 10, none⟩ = some (.int .i64 M.q) ∧ Y.cell? ⟨g, o + j * 15 + 11, none⟩ = some (.int .i64 M.bd) ∧ Y.cell? ⟨g, o + j * 15 + 12, none⟩ = some (.slice M.aw M.mw M.cw) ∧ Y.cell? ⟨g, o + j * 15 + 13, none⟩ = some (.slice M.an M.mn M.cn) ∧ Y.cell? ⟨g, o + j * 15 + 14, none⟩ = some (.slice M.ab M.mb M.cb)) ∧ Y.cell? ⟨b, 4, none⟩ = some (.slice (some ⟨g, o, none⟩) ml cl))
    (((try dsimp only); (with_reducible refine kp9 (W := Z) HL.out HM.out HN.out ?_); repeat (first | (with_reducible exact Below.refl _ _) | (with_reducible assumption) | (with_reducible refine Below.drew ?_) | (with_reducible refine bl_alloc ?_ _) | (with_reducible refine bl_set ?_ (by first | exact Nat.le_refl _ | simp | omega) _))))
    (fail)
  all_goals (refine NoPanic.normal ?_)
  all_goals (first | (refine hQ.out _ _ _ _ _ _ _ _ _ _ _ _ _ (ly_rowT (by with_reducible exact two0)) (ly_rowT (by with_reducible exact two1)) (by omega) (by omega) (by omega) (bl_alloc (bl_alloc (Below.refl _ _) _) _).drew) | (refine hQ.out _ _ _ _ _ _ _ _ _ _ _ _ _ (ly_rowT (by with_reducible exact two1)) (ly_rowT (by with_reducible exact two0)) (by omega) (by omega) (by omega) (bl_alloc (bl_alloc (Below.refl _ _) _) _).drew))
end Go.Proofs.YtlgjoepeibodkaaGreat.Nn
/- PLAINORDER: the walk. -/
namespace Go.Proofs.YtlgjoepeibodkaaGreat.Nn
open Go.RowKit

theorem ls_wO {W : World} {g : Nat} {L : Ly} {aw : Option Addr} {cw : Nat} (h : W.rowIs g 38 15 (lyf L)) : (W.setCell ⟨g, 12, none⟩ (.slice aw L.mw cw)).rowIs g 38 15 (lyf (lsL L aw cw L.an L.cn)) := by
  refine (h.set 12 (.slice aw L.mw cw)).congr fun i hi => ?_
  rcases (show i = 0 ∨ i = 1 ∨ i = 2 ∨ i = 3 ∨ i = 4 ∨ i = 5 ∨ i = 6 ∨ i = 7 ∨ i = 8 ∨ i = 9 ∨ i = 10 ∨ i = 11 ∨ i = 12 ∨ i = 13 ∨ i = 14 by omega) with rfl | rfl | rfl | rfl | rfl | rfl | rfl | rfl | rfl | rfl | rfl | rfl | rfl | rfl | rfl <;> rfl
theorem prm_of {l : List Int} {K : Nat} (h : l.Perm (itR K)) : Prm K (fun k => (l.getD k 0).toNat) ∧ ∀ k, k < K → l.getD k 0 = (((l.getD k 0).toNat : Nat) : Int) := by
  have hl : l.length = K := by rw [h.length_eq, itR_len]
  refine ⟨?_, fun k hk => ?_⟩
  · unfold Prm
    have h2 := h.map Int.toNat
    have e1 : (itR K).map Int.toNat = List.range K := by
      unfold itR
      rw [List.map_map]
      conv => rhs; rw [← List.map_id (List.range K)]
      exact List.map_congr_left fun a _ => rfl
    have e2 : l.map Int.toNat = (List.range K).map fun k => (l.getD k 0).toNat := by
      apply List.ext_getElem?
      intro q
      rw [List.getElem?_map, List.getElem?_map]
      by_cases hq : q < K
      · rw [List.getElem?_range hq, List.getElem?_eq_getElem (by omega)]
        simp [List.getD, List.getElem?_eq_getElem (show q < l.length by omega)]
      · rw [List.getElem?_eq_none (by omega), List.getElem?_eq_none (by simpa using hq)]
        rfl
    rw [e1, e2] at h2
    exact h2
  · have hk' : k < l.length := by omega
    have e : l.getD k 0 = l[k] := by simp [List.getD, List.getElem?_eq_getElem hk']
    have hm : l[k] ∈ itR K := h.mem_iff.1 (List.getElem_mem hk')
    obtain ⟨q, -, hq⟩ := List.mem_map.1 hm
    rw [e, ← hq]
    rfl
theorem own_blk {W X : World} {base e s n : Nat} {v : Value} {xs : List Value} (h : W.ownsRow base e s v n xs) (hb : ∀ q, v.ownBlock = some q → X.heap[q]? = W.heap[q]?) : X.ownsRow base e s v n xs := by
  refine ⟨h.1, ?_⟩
  rcases h.2 with h' | ⟨g, cap, cur, e1, h1, h2, h3⟩
  · exact .inl h'
  · exact .inr ⟨g, cap, cur, e1, h1, by rw [hb g (by rw [e1]; rfl)]; exact h2, h3⟩
theorem OrM.blk {W X : World} {t base g F mw cw mn cn : Nat} {L : Ly} {o : Nat → Nat} {aw an : Option Addr} (h : OrM W base g L F o aw mw cw an mn cn) (hk : ∀ k, k < t → X.heap[k]? = W.heap[k]?) (hg : g < t) (h1 : ∀ q, (Value.slice aw mw cw).ownBlock = some q → q < t) (h2 : ∀ q, (Value.slice an mn cn).ownBlock = some q → q < t) : OrM X base g L F o aw mw cw an mn cn := ⟨World.rowIs.of_block h.1 (hk g hg), own_blk h.2.1 fun q hq => hk q (h1 q hq), own_blk h.2.2 fun q hq => hk q (h2 q hq)⟩
theorem OrM.other {W : World} {base g F mw cw mn cn p c t k : Nat} {L : Ly} {o : Nat → Nat} {aw an : Option Addr} {G : Nat → Value} {u : Value} (h : OrM W base g L F o aw mw cw an mn cn) (hr : W.rowIs p t k G) (hg : g ≠ p) (h8 : 39 ≠ t) (hn : 43 ≠ t) : OrM (W.setCell ⟨p, c, none⟩ u) base g L F o aw mw cw an mn cn := ⟨h.1.setOther (by show g ≠ p; exact hg) _, own_setNe h.2.1 (fun q hq => own_ne_row h.2.1 hr h8 q hq), own_setNe h.2.2 (fun q hq => own_ne_row h.2.2 hr hn q hq)⟩
/-- The next layer that has weights is there. -/
theorem next_in {N : Nt} (hz : chE N = 0) {i j : Nat} (hi : i < N.ml) (hn : 0 < (N.lf i).mn) (pool : ∀ q, i < q → q < j → (N.lf q).kd = 3) : ¬ N.ml ≤ j := fun h => by
  obtain ⟨m, hm⟩ : ∃ m, N.ml = m + 1 := ⟨N.ml - 1, by omega⟩
  obtain ⟨l1, l2, l3, -⟩ := last_ok hz hm
  by_cases e : i = m
  · subst e; omega
  · have := pool m (by omega) (by omega)
    omega
attribute [local go_sem ↓] Go.wp_at_zero Go.wp_at_succ
set_option maxHeartbeats 12800000 in
set_option maxRecDepth 100000 in
theorem plainOrder_any (N : Nt) (ax : Option Addr) (mx cx : Nat) (f : Nat → Int) (at0 : Int) (ao : Option Addr) (m cap : Nat) (wh : Nat → Int) (w : World) (hN : NtW w N) (hcw : ∀ j, j < N.ml → (N.lf j).mw ≤ (N.lf j).cw) (hx : RB w ax mx f) (hwh : RI w ao m wh) :
    Calls Tryz.prog 4 #[ntv N, .slice ax mx cx, .int .i64 at0, .slice ao m cap] w fun e w' => e = .returned (.bool true) ∧ Below w.heap.size w w' := by
  have HN := hid1 hN
  have HX := hid1 hx
  have HCW := hid1 hcw
  have HWH := hid1 hwh
  clear hN hx hcw hwh
  obtain ⟨b, hb0⟩ : ∃ b, w.heap.size = b := ⟨_, rfl⟩
  go_enter Tryz.func4, Tryz.ntmps4
  go_upto_region 1 with fail
  refine gen_world (fun X => X.rowIs b 26 5 (netF N.nm N.h N.v N.c (.slice N.al N.ml N.cl)) ∧ Below w.heap.size w X) ⟨by rw [← hb0]; exact net_newF _ _ _ _ _ _ _, by repeat (first | (with_reducible exact Below.refl _ _) | (with_reducible refine bl_alloc ?_ _) | (with_reducible refine Below.drew ?_) | (with_reducible refine bl_drewN ?_ _) | (with_reducible refine bl_set ?_ (by omega) _) | (with_reducible refine bl_step ?_ (by assumption)))⟩ ?_
  rintro X0 ⟨R0, B0⟩
  have HR0 := hid1 R0
  have HB0 := hid1 B0
  clear R0 B0
  go_wp2_with fail
  refine (begun6_any X0).mono ?_
  rintro e X1 ⟨rfl, b1⟩
  have R1 := World.rowIs.of_block HR0.out (b1.block _ HR0.out.lt)
  have HR1 := hid1 R1
  have HB1 := hid1 (bl_step HB0.out b1)
  have n0 : X1.cell? ⟨b, 0, none⟩ = some (.string N.nm) := R1.cell (i := 0) (by decide)
  have n1 : X1.cell? ⟨b, 1, none⟩ = some (.int .i64 N.h) := R1.cell (i := 1) (by decide)
  have n2 : X1.cell? ⟨b, 2, none⟩ = some (.int .i64 N.v) := R1.cell (i := 2) (by decide)
  have n3 : X1.cell? ⟨b, 3, none⟩ = some (.int .i64 N.c) := R1.cell (i := 3) (by decide)
  have n4 : X1.cell? ⟨b, 4, none⟩ = some (.slice N.al N.ml N.cl) := R1.cell (i := 4) (by decide)
  have CF := hid1 (fits6_any N ax mx cx X1 (HN.out.keep HB1.out))
  clear R1 b1 HR0 HB0
  go_wp2_with fail
  refine CF.out.mono ?_
  rintro e X2 ⟨bo, rfl, hbo, b2⟩
  have HBO := hid1 hbo
  have HR2 := hid1 (World.rowIs.of_block HR1.out (b2.block _ HR1.out.lt))
  have HB2 := hid1 (bl_step HB1.out b2)
  clear n0 n1 n2 n3 n4 CF hbo b2 HR1 HB1
  cases bo with
  | false =>
    go_wp2_with fail
    refine (begun6_any X2).mono ?_
    rintro e X3 ⟨rfl, b3⟩
    have HB3 := hid1 (bl_step HB2.out b3)
    clear b3
    go_wp2_with fail
    go_ret
    exact ⟨rfl, HB3.out⟩
  | true =>
    have HF := hid1 (HBO.out.1 rfl)
    clear HBO
    obtain ⟨hz, hsz, hwo⟩ := HF.out
    have HM1 := hid1 (wh_parts (fl_all hz).1).2.2
    have HZ := hid1 hz
    have HSZ := hid1 hsz
    have HWO := hid1 hwo
    clear hz hsz hwo HF
    have CI := hid1 (inner_any N at0 HM1.out.2 X2 (HN.out.keep HB2.out))
    have n0 : X2.cell? ⟨b, 0, none⟩ = some (.string N.nm) := HR2.out.cell (i := 0) (by decide)
    have n1 : X2.cell? ⟨b, 1, none⟩ = some (.int .i64 N.h) := HR2.out.cell (i := 1) (by decide)
    have n2 : X2.cell? ⟨b, 2, none⟩ = some (.int .i64 N.v) := HR2.out.cell (i := 2) (by decide)
    have n3 : X2.cell? ⟨b, 3, none⟩ = some (.int .i64 N.c) := HR2.out.cell (i := 3) (by decide)
    have n4 : X2.cell? ⟨b, 4, none⟩ = some (.slice N.al N.ml N.cl) := HR2.out.cell (i := 4) (by decide)
    go_wp2_with fail
    refine CI.out.mono ?_
    rintro e X3 ⟨r, rfl, hr, b3⟩
    have HRR := hid1 hr
    have HR3 := hid1 (World.rowIs.of_block HR2.out (b3.block _ HR2.out.lt))
    have HB3 := hid1 (bl_step HB2.out b3)
    clear n0 n1 n2 n3 n4 CI hr b3 HR2 HB2
    rcases HRR.out with hr | ⟨i, hr, hi, hn⟩
    · clear HRR
      subst hr
      go_wp2_with fail
      go_ret
      exact ⟨rfl, HB3.out⟩
    · clear HRR
      subst hr
      have HI := hid1 (And.intro hi hn)
      have hmax := HM1.out.2
      have wi1 : IntKind.i64.wrap ((i : Int) + 1) = ((i + 1 : Nat) : Int) := by rw [IntKind.wrap_i64]; omega
      clear hn
      go_wp2_with fail
      go_loopw [10] (fun s10 wr => ∃ j : Nat, i + 1 ≤ j ∧ j ≤ N.ml ∧ s10 = .int .i64 (j : Int) ∧ Hid (wr.rowIs b 26 5 (netF N.nm N.h N.v N.c (.slice N.al N.ml N.cl))) ∧ Hid (Below w.heap.size w wr) ∧ Hid (∀ q, i < q → q < j → (N.lf q).kd = 3)) (fun s10 _ => N.ml - (intOf s10).toNat)
      case atStart => exact ⟨i + 1, Nat.le_refl _, hi, by first | rfl | (simp), HR3, HB3, hid1 (fun q h1 h2 => by omega)⟩
      case round =>
        clear HR3 HB3
        obtain ⟨j, hij, hjm, rfl, HR3, HB3, HPO⟩ := hrel
        have n4 : wr.cell? ⟨b, 4, none⟩ = some (.slice N.al N.ml N.cl) := HR3.out.cell (i := 4) (by decide)
        have j0 : (0 : Int) ≤ (j : Int) := by omega
        by_cases hlt : j < N.ml
        · have jlt : (j : Int) < (N.ml : Int) := by omega
          obtain ⟨g, o, e, LC, -⟩ := (HN.out.keep HB3.out).1 j hlt
          have HLC := hid1 LC
          have ck : wr.cell? ⟨g, o + j * 15, none⟩ = some (.int .i64 (N.lf j).kd) := LC.1
          obtain ⟨kd, hkd⟩ : ∃ kd, (N.lf j).kd = kd := ⟨_, rfl⟩
          rw [hkd] at ck
          have HEG := hid1 e
          rw [e] at n4
          clear e LC
          by_cases h3 : kd = 3
          · subst h3
            have wj : IntKind.i64.wrap ((j : Int) + 1) = (j : Int) + 1 := by rw [IntKind.wrap_i64]; omega
            have HKD := hid1 hkd
            clear hkd
            go_wp2_with fail
            exact ⟨⟨j + 1, by omega, by omega, by go_num, HR3, HB3, hid1 (fun q h1 h2 => by
              by_cases e : q = j
              · rw [e]; exact HKD.out
              · exact HPO.out q h1 (by omega))⟩, by simp [intOf]; omega⟩
          · have HNJ : Hid (¬ (N.lf j).kd = 3) := hid1 (by rw [hkd]; exact h3)
            clear hkd
            obtain ⟨q1, q2, q3, q4, q5, q6, q7, q8⟩ := nm_layer HZ.out hi HI.out.2
            obtain ⟨g2, o2, e2, LCi, -⟩ := (HN.out.keep HB3.out).1 i hi
            rw [HEG.out] at e2
            cases e2
            obtain ⟨L, hL⟩ : ∃ L, N.lf i = L := ⟨_, rfl⟩
            obtain ⟨M, hM⟩ : ∃ M, N.lf j = M := ⟨_, rfl⟩
            obtain ⟨F, hF⟩ : ∃ F, F = fanN N i := ⟨_, rfl⟩
            rw [hL] at LCi q2 q3 q5 q6 q7 q8
            rw [← hF] at q4 q5
            obtain ⟨K, eK⟩ := Int.eq_ofNat_of_zero_le (show 0 ≤ L.k by omega)
            have HL := hid1 hL
            have HM := hid1 hM
            have HF := hid1 hF
            have HLI := hid1 LCi
            have HLJ : Hid (Lc wr g (o + j * 15) M) := hid1 (by rw [← hM]; exact HLC.out)
            have HN4 := hid1 n4
            have HQ : Hid ((1 ≤ F ∧ K ≤ 4096 ∧ 1 ≤ K) ∧ L.mw = K * F ∧ L.mw ≤ 16777216 ∧ L.mn = K ∧ L.k = (K : Int)) := hid1 ⟨⟨q4, by omega, by omega⟩, by rw [q5, eK]; rfl, q6, by omega, eK⟩
            have HMM : Hid ((∃ n, M.mw = n * K) ∧ 1 ≤ M.mw ∧ M.mw ≤ 16777216) := hid1 (by
              obtain ⟨n, hn⟩ := chan_mw HZ.out ⟨hij, hlt⟩ HPO.out HNJ.out (by rw [hL]; exact eK) HI.out.2
              obtain ⟨-, -, K', F', eK', eF', k1, k2, hmw, f1, hKF, -⟩ := lay_w (sp_all HZ.out j (by omega)) ((fl_all HZ.out).2 j hlt) HNJ.out
              rw [hM] at hn hmw
              exact ⟨⟨n, hn⟩, by rw [hmw]; exact Nat.mul_pos k1 f1, by rw [hmw]; exact hKF⟩)
            have iim : (i : Int) < (N.ml : Int) := by omega
            have hmwc : Hid (L.mw ≤ L.cw ∧ M.mw ≤ M.cw) := hid1 ⟨by rw [← hL]; exact HCW.out i hi, by rw [← hM]; exact HCW.out j hlt⟩
            have hijl : Hid (i < j ∧ j < N.ml) := hid1 ⟨hij, hlt⟩
            clear q1 q2 q3 q4 q5 q6 q7 q8 hL hM hF LCi eK HLC
            go_upto_region 9 with fail
            refine po_r9 _ _ _ _ _ _ _ _ _ _ _ _ _ _ _ _ _ _ _ _ _ _ _ _ _ _ _ _ _ _ _ _ _ _ _ _ _ _ _ _ _ _ _ _ _ _ _ _ _ _ _ _ _ _ _ _ _ _ _ _ _ _ _ _ _ _ _ _ _ _ _ _ _ _ _ _ _ _ _ _ _ _ _ _ _ _ _ _ _ _ _ _ _ _ _ _ _ _ _ _ _ _ _ _ _ _ _ _ _ _ _ _ _ _ _ _ _ _ _ _ _ _ _ _ _ _ _ _ _ _ _ _ _ _ _ _ _ _ _ _ _ _ _ _ _ _ _ _ _ _ _ _ _ _ _ _ _ _ _ _ _ _ _ _ _ _ _ _ _ _ _ _ _ _ _ _ _ b i j g o N.ml N.cl L M wr _ HLI HLJ HN4 iim jlt (hid1 ?_)
            intro X4 g11 g12 v55 v56 v57 v58 v59 v60 v61 v62 v63 v64 RL RM pne pz qz B4
            have HBb : Hid (b < wr.heap.size) := hid1 HR3.out.lt
            have HR4 := hid1 (World.rowIs.of_block HR3.out (B4.block _ HR3.out.lt))
            have HB5 := hid1 (bl_step HB3.out B4)
            have HRL := hid1 RL
            have HRM := hid1 RM
            have HNE := hid1 (And.intro pne (And.intro pz qz))
            have l2 : X4.cell? ⟨g11, 2, none⟩ = some (.int .i64 (K : Int)) := by rw [← HQ.out.2.2.2.2]; exact RL.cell (i := 2) (by decide)
            have CM := hid1 (mixed_any K HQ.out.1.2.1 ao m cap wh X4 (HWH.out.keep HB5.out))
            clear RL RM pne pz qz B4 HLI HLJ HN4 HR3 HB3 iim j0 hlt jlt n4 ck h3
            go_wp2_with fail
            refine CM.out.mono ?_
            rintro e X5 ⟨oa, oc, l, rfl, ow5, per5, b5⟩
            obtain ⟨go, eo, -, ho1, ho2, -⟩ := own_cellsS ow5 HQ.out.1.2.2
            subst eo
            have HPR := hid1 (prm_of per5)
            obtain ⟨op, hop⟩ : ∃ op : Nat → Nat, op = fun k => (l.getD k 0).toNat := ⟨_, rfl⟩
            have HOP : Hid (Prm K op ∧ ∀ k, k < K → op k < K ∧ X5.cell? ⟨go, k, none⟩ = some (.int .i64 ((op k : Nat) : Int))) := hid1 (by
              have hp := HPR.out
              rw [← hop] at hp
              refine ⟨hp.1, fun k hk => ⟨hp.1.lt hk, ?_⟩⟩
              obtain ⟨g', e', c'⟩ := own_it ow5 hk
              cases e'
              rw [c', hp.2 k hk, hop])
            have HR5 := hid1 (World.rowIs.of_block HR4.out (b5.block _ HR4.out.lt))
            have HB6 := hid1 (bl_step HB5.out b5)
            have HRL5 := hid1 (World.rowIs.of_block HRL.out (b5.block _ HRL.out.lt))
            have HRM5 := hid1 (World.rowIs.of_block HRM.out (b5.block _ HRM.out.lt))
            have HGO : Hid (X4.heap.size ≤ go ∧ go < X5.heap.size) := hid1 ⟨ho1, ho2⟩
            have HLT4 := hid1 (And.intro HRL.out.lt (And.intro HRM.out.lt HR4.out.lt))
            clear CM l2 ow5 per5 b5 ho1 ho2 HR4 HB5 HRL HRM HPR hop
            go_upto_region 11 with fail
            refine po_r11 _ _ _ _ _ _ _ _ _ _ _ _ _ _ _ _ _ _ _ _ _ _ _ _ _ _ _ _ _ _ _ _ _ _ _ _ _ _ _ _ _ _ _ _ _ _ _ _ _ _ _ _ _ _ _ _ _ _ _ _ _ _ _ _ _ _ _ _ _ _ _ _ _ _ _ _ _ _ _ _ _ _ _ _ _ _ _ _ _ _ _ _ _ _ _ _ _ _ _ _ _ _ _ _ _ _ _ _ _ _ _ _ _ _ _ _ _ _ _ _ _ _ _ _ _ _ _ _ _ _ _ _ _ _ _ _ _ _ _ _ _ _ _ _ _ _ _ _ _ _ _ _ _ _ _ _ _ _ _ _ _ _ _ _ _ _ _ _ _ _ _ _ _ _ _ _ _ _ g11 g12 L M X5 _ (hid1 (lyf_cells HRL5.out)) (hid1 (lyf_cells HRM5.out)) (hid1 ?_)
            intro X6 g14 g15 v69 v70 RA RB2 ane az bz B6
            have HR6 := hid1 (World.rowIs.of_block HR5.out (B6.block _ HR5.out.lt))
            have HB7 := hid1 (bl_step HB6.out B6)
            have HRL6 := hid1 (World.rowIs.of_block HRL5.out (B6.block _ HRL5.out.lt))
            have HRM6 := hid1 (World.rowIs.of_block HRM5.out (B6.block _ HRM5.out.lt))
            have HO6 : Hid (∀ k, k < K → op k < K ∧ X6.cell? ⟨go, k, none⟩ = some (.int .i64 ((op k : Nat) : Int))) := hid1 (fun k hk => ⟨(HOP.out.2 k hk).1, keepc B6 (HOP.out.2 k hk).2⟩)
            have HRA := hid1 RA
            have HRB := hid1 RB2
            have HAZ := hid1 (And.intro ane (And.intro az bz))
            have a12 : X6.cell? ⟨g14, 12, none⟩ = some (.slice L.aw L.mw L.cw) := RA.cell (i := 12) (by decide)
            have a13 : X6.cell? ⟨g14, 13, none⟩ = some (.slice L.an L.mn L.cn) := RA.cell (i := 13) (by decide)
            have z12 := RA.frozen 12
            have z13 := RA.frozen 13
            have HL5 := hid1 (And.intro HRL5.out.lt (And.intro HRM5.out.lt HR5.out.lt))
            clear RA RB2 ane az bz B6 HR5 HB6 HRL5 HRM5
            go_upto_region 14 with fail
            refine gen_world (fun X => X.rowIs b 26 5 (netF N.nm N.h N.v N.c (.slice N.al N.ml N.cl)) ∧ X.rowIs g11 38 15 (lyf L) ∧ X.rowIs g12 38 15 (lyf M) ∧ X.rowIs g15 38 15 (lyf M) ∧ OrM X X6.heap.size g14 L F op none 0 0 none 0 0 ∧ (∀ k, k < K → op k < K ∧ X.cell? ⟨go, k, none⟩ = some (.int .i64 ((op k : Nat) : Int))) ∧ Below w.heap.size w X ∧ X.heap.size = X6.heap.size) ?gw14 ?_
            case gw14 =>
              have h1 := HAZ.out
              have h2 := HL5.out
              have h3 := HGO.out
              have h4 := HB7.out.size
              have hb4 : w.heap.size ≤ g14 := by have := HBb.out; omega
              refine ⟨(HR6.out.setOther (by show b ≠ g14; omega) _).setOther (by show b ≠ g14; omega) _, (HRL6.out.setOther (by show g11 ≠ g14; omega) _).setOther (by show g11 ≠ g14; omega) _, (HRM6.out.setOther (by show g12 ≠ g14; omega) _).setOther (by show g12 ≠ g14; omega) _, (HRB.out.setOther (by show g15 ≠ g14; omega) _).setOther (by show g15 ≠ g14; omega) _, ⟨?_, World.ownsRow_nil _ _ _ _, World.ownsRow_nil _ _ _ _⟩, fun k hk => ⟨(HO6.out k hk).1, ?_⟩, bl_set (bl_set HB7.out hb4 _) hb4 _, by simp⟩
              · exact gr_n (gr_w (aw := L.aw) (mw := L.mw) (cw := L.cw) (an := L.an) (mn := L.mn) (cn := L.cn) HRA.out)
              · have hne : go ≠ g14 := by omega
                exact ((World.cell?_of_block (Below.heap_setCell _ _ _ _ (by show go ≠ g14; exact hne))).trans (World.cell?_of_block (Below.heap_setCell _ _ _ _ (by show go ≠ g14; exact hne)))).trans (HO6.out k hk).2
            have H6L := hid1 (And.intro HRL6.out.lt (And.intro HRM6.out.lt (And.intro HR6.out.lt (And.intro HRA.out.lt HRB.out.lt))))
            clear a12 a13 z12 z13 HR6 HB7 HRL6 HRM6 HO6 HRA HRB
            rintro X7 ⟨R7, RL7, RM7, RB7, OM7, O7, B7, z7⟩
            have HR7 := hid1 R7
            have HRL7 := hid1 RL7
            have HRM7 := hid1 RM7
            have HRB7 := hid1 RB7
            have HOM7 := hid1 OM7
            have HO7 := hid1 O7
            have HB7 := hid1 B7
            have HZ7 := hid1 z7
            have l2 : X7.cell? ⟨g11, 2, none⟩ = some (.int .i64 (K : Int)) := by rw [← HQ.out.2.2.2.2]; exact RL7.cell (i := 2) (by decide)
            have l12 : X7.cell? ⟨g11, 12, none⟩ = some (.slice L.aw L.mw L.cw) := RL7.cell (i := 12) (by decide)
            have hK0 : ¬ (K : Int) = 0 := by have := HQ.out; omega
            have hqq : ((L.mw : Int)).tdiv (K : Int) = (F : Int) := by
              rw [HQ.out.2.1, Int.natCast_mul]
              exact Int.mul_tdiv_cancel_left _ hK0
            have hFb : F ≤ 16777216 := by
              have h1 := HQ.out.2.2.1
              rw [HQ.out.2.1] at h1
              exact Nat.le_trans (Nat.le_mul_of_pos_left F HQ.out.1.2.2) h1
            have HLS : Hid (Lst w L) := hid1 (by obtain ⟨_, _, _, _, h⟩ := HN.out.1 i hi; rw [HL.out] at h; exact h)
            have HMS : Hid (Lst w M) := hid1 (by obtain ⟨_, _, _, _, h⟩ := HN.out.1 j hijl.out.2; rw [HM.out] at h; exact h)
            have HK2 : Hid ((1 ≤ F ∧ K ≤ 4096) ∧ (L.mw = K * F ∧ L.mw ≤ 16777216 ∧ L.mw ≤ L.cw ∧ L.mn = K ∧ L.k = (K : Int)) ∧ X6.heap.size ≤ X7.heap.size ∧ (g11 < X6.heap.size ∧ g11 ≠ g14) ∧ (go < X6.heap.size ∧ go ≠ g14) ∧ w.heap.size ≤ X6.heap.size ∧ w.heap.size ≤ g14) := hid1 (by
              have h0 := HQ.out
              have h1 := HAZ.out
              have h2 := HL5.out
              have h3 := HGO.out
              have h4 := H6L.out
              have h5 := HB7.out.size
              have h6 := HBb.out
              exact ⟨⟨h0.1.1, h0.1.2.1⟩, ⟨h0.2.1, h0.2.2.1, hmwc.out.1, h0.2.2.2.1, h0.2.2.2.2⟩, by omega, ⟨h4.1, by omega⟩, ⟨by omega, by omega⟩, by omega, by omega⟩)
            clear R7 RL7 RM7 RB7 OM7 O7 B7 z7
            go_upto_block 2 with fail
            refine po_b2 _ _ _ _ _ _ _ _ _ _ _ _ _ _ _ _ _ _ _ _ _ _ _ _ _ _ _ _ _ _ _ _ _ _ _ _ _ _ _ _ _ _ _ _ _ _ _ _ _ _ _ _ _ _ _ _ _ _ _ _ _ _ _ _ _ _ _ _ _ _ _ _ _ _ _ _ _ _ _ _ _ _ _ _ _ _ _ _ _ _ _ _ _ _ _ _ _ _ _ _ _ _ _ _ _ _ _ _ _ _ _ _ _ _ _ _ _ _ _ _ _ _ _ _ _ _ _ _ _ _ _ _ _ _ _ _ _ _ _ _ _ _ _ _ _ _ _ _ _ _ _ _ _ _ _ _ _ _ _ _ _ _ _ _ _ _ _ _ _ _ _ _ _ _ _ g11 g14 go oc K F X6.heap.size L op w X7 _ HOM7 HRL7 HLS HB7 HO7 HK2 (hid1 ?_)
            intro X8 aw8 cw8 an8 cn8 v17 v79 v80 v81 v82 v83 v84 v85 v86 v87 v88 v89 v90 v91 v92 v93 v94 v95 v96 v97 v98 v99 v100 v101 v102 v103 v104 v105 v106 v107 v108 v109 v110 v111 v112 v113 v114 v115 v116 v117 OM8 F8
            have hk2 := HK2.out
            have hl6 := H6L.out
            have haz := HAZ.out
            have hl5 := HL5.out
            have HOM8 := hid1 OM8
            have HR8 := hid1 (F8.row hl6.2.2.1 (by omega) HR7.out)
            have HRL8 := hid1 (F8.row hk2.2.2.2.1.1 hk2.2.2.2.1.2 HRL7.out)
            have HRM8 := hid1 (F8.row hl6.2.1 (by omega) HRM7.out)
            have HRB8 := hid1 (F8.row hl6.2.2.2.2 (by omega) HRB7.out)
            have HO8 : Hid (∀ k, k < K → op k < K ∧ X8.cell? ⟨go, k, none⟩ = some (.int .i64 ((op k : Nat) : Int))) := hid1 (fun k hk => ⟨(HO7.out k hk).1, F8.cell hk2.2.2.2.2.1.1 hk2.2.2.2.2.1.2 (HO7.out k hk).2⟩)
            have HB8 := hid1 (F8.below w hk2.2.2.2.2.2.1 hk2.2.2.2.2.2.2 HB7.out)
            have HSZ8 : Hid (X6.heap.size ≤ X8.heap.size) := hid1 (by have := F8.size; have := HZ7.out; omega)
            have m12 : X8.cell? ⟨g12, 12, none⟩ = some (.slice M.aw M.mw M.cw) := HRM8.out.cell (i := 12) (by decide)
            clear OM8 F8 hk2 hl6 haz hl5 HR7 HRL7 HRM7 HRB7 HOM7 HO7 HB7 HZ7 l2 l12 hqq hK0 hFb
            refine kgo (by assumption) ?_
            have HMQ : Hid (1 ≤ M.mw ∧ M.mw ≤ 16777216) := hid1 HMM.out.2
            have HMS8 := hid1 (HMS.out.keep HB8.out)
            go_upto_region 21 with (at_builtin; refine app_clWT rfl _ _ rfl M (by go_simp) (by go_simp) HMS8.out.1 HMQ.out ?_; intro v1 y1 own1 bb1; obtain ⟨a1, d1, rfl⟩ := own_isP own1; have HO1 := hid1 own1; have HB1 := hid1 bb1; have R5 := World.rowIs.of_block HRB8.out (bb1.block _ HRB8.out.lt); have b12 : y1.cell? ⟨g15, 12, none⟩ = some (.slice M.aw M.mw M.cw) := R5.cell (i := 12) (by decide); have f12 := R5.frozen 12; clear own1 bb1 R5)
            refine gen_world (fun X => X.rowIs b 26 5 (netF N.nm N.h N.v N.c (.slice N.al N.ml N.cl)) ∧ X.rowIs g11 38 15 (lyf L) ∧ X.rowIs g12 38 15 (lyf M) ∧ OrM X X6.heap.size g14 L F op aw8 L.mw cw8 an8 L.mn cn8 ∧ AfM X X8.heap.size g15 M a1 d1 M.ws ∧ (∀ k, k < K → op k < K ∧ X.cell? ⟨go, k, none⟩ = some (.int .i64 ((op k : Nat) : Int))) ∧ Below w.heap.size w X) ?gw21 ?_
            case gw21 =>
              have h1 := HAZ.out
              have h2 := HL5.out
              have h3 := HGO.out
              have h4 := HK2.out
              have h5 := HB1.out
              have hgo : go ≠ g15 := by omega
              have hb5 : w.heap.size ≤ g15 := by have := HBb.out; omega
              have RB9 := World.rowIs.of_block HRB8.out (h5.block _ HRB8.out.lt)
              refine ⟨(World.rowIs.of_block HR8.out (h5.block _ HR8.out.lt)).setOther (by show b ≠ g15; omega) _, (World.rowIs.of_block HRL8.out (h5.block _ HRL8.out.lt)).setOther (by show g11 ≠ g15; omega) _, (World.rowIs.of_block HRM8.out (h5.block _ HRM8.out.lt)).setOther (by show g12 ≠ g15; omega) _, (HOM8.out.keep h5).other RB9 (by omega) (by decide) (by decide), ⟨ls_wO RB9, own_setD HO1.out HRB8.out.lt⟩, fun k hk => ⟨(HO8.out k hk).1, ?_⟩, bl_set (bl_step HB8.out h5) hb5 _⟩
              exact (World.cell?_of_block (Below.heap_setCell _ _ _ _ (by show go ≠ g15; exact hgo))).trans (keepc h5 (HO8.out k hk).2)
            clear m12 b12 f12 HMS8 HO1 HB1
            rintro X9 ⟨R9, RL9, RM9, OM9, AF9, O9, B9⟩
            have HR9 := hid1 R9
            have HRL9 := hid1 RL9
            have HRM9 := hid1 RM9
            have HOM9 := hid1 OM9
            have HAF9 := hid1 AF9
            have HO9 := hid1 O9
            have HB9 := hid1 B9
            obtain ⟨n, hn⟩ := HMM.out.1
            have HLT8 : Hid (b < X8.heap.size ∧ g11 < X8.heap.size ∧ g12 < X8.heap.size ∧ g14 < X8.heap.size ∧ go < X8.heap.size) := hid1 ⟨HR8.out.lt, HRL8.out.lt, HRM8.out.lt, HOM8.out.1.lt, lt_of_cell (HO8.out 0 HQ.out.1.2.2).2⟩
            have HKK : Hid ((1 ≤ K ∧ K ≤ 4096) ∧ (M.mw = n * K ∧ 1 ≤ M.mw ∧ M.mw ≤ 16777216) ∧ L.k = (K : Int) ∧ w.heap.size ≤ X8.heap.size ∧ g11 < X8.heap.size ∧ g12 < X8.heap.size ∧ go < X8.heap.size) := hid1 ⟨⟨HQ.out.1.2.2, HQ.out.1.2.1⟩, ⟨hn, HMQ.out⟩, HQ.out.2.2.2.2, HB8.out.size, HLT8.out.2.1, HLT8.out.2.2.1, HLT8.out.2.2.2.2⟩
            have HOL : Hid ((∀ q, (Value.slice aw8 L.mw cw8).ownBlock = some q → q < X8.heap.size) ∧ ∀ q, (Value.slice an8 L.mn cn8).ownBlock = some q → q < X8.heap.size) := hid1 ⟨fun q hq => (HOM8.out.2.1.lt q hq).2, fun q hq => (HOM8.out.2.2.lt q hq).2⟩
            clear R9 RL9 RM9 OM9 AF9 O9 B9 hn HR8 HRL8 HRM8 HRB8 HO8 HOM8
            go_upto_block 4 with fail
            refine po_b4 _ _ _ _ _ _ _ _ _ _ _ _ _ _ _ _ _ _ _ _ _ _ _ _ _ _ _ _ _ _ _ _ _ _ _ _ _ _ _ _ _ _ _ _ _ _ _ _ _ _ _ _ _ _ _ _ _ _ _ _ _ _ _ _ _ _ _ _ _ _ _ _ _ _ _ _ _ _ _ _ _ _ _ _ _ _ _ _ _ _ _ _ _ _ _ _ _ _ _ _ _ _ _ _ _ _ _ _ _ _ _ _ _ _ _ _ _ _ _ _ _ _ _ _ _ _ _ _ _ _ _ _ _ _ _ _ _ _ _ _ _ _ _ _ _ _ _ _ _ _ _ _ _ _ _ _ _ _ _ _ _ _ _ _ _ _ _ _ _ _ _ _ _ _ _ g11 g12 g15 go oc K n X8.heap.size d1 L M a1 op w X9 X9 _ HAF9 HRL9 HRM9 (hid1 HMS.out.1) (hid1 ⟨HB9.out, Below.refl _ _⟩) HO9 (hid1 HOP.out.1) HKK (hid1 (Below.refl _ _)) (hid1 ?_)
            intro X10 v18 v122 v123 v124 v125 v126 v127 v128 v129 v130 v131 v132 v133 v134 v135 v136 v137 v138 v139 v140 v141 v142 v143 v144 v145 v146 v147 v148 v149 v150 AF10 BT10
            have HR10 := hid1 (World.rowIs.of_block HR9.out (BT10.2.block b HLT8.out.1))
            have HOM10 := hid1 (HOM9.out.blk (t := X8.heap.size) (fun k hk => BT10.2.block k hk) HLT8.out.2.2.2.1 HOL.out.1 HOL.out.2)
            have HAF10 := hid1 AF10
            have HB10 := hid1 BT10.1
            have HTW : Hid (Two N L M i j K F op) := hid1 ⟨hijl.out, HPO.out, by rw [← HM.out]; exact HNJ.out, HL.out, HM.out, HOP.out.1, HQ.out.2.2.2.2, by rw [← HL.out]; exact HI.out.2, HF.out⟩
            have HMZ : Hid ((1 ≤ L.mw ∧ L.mw ≤ 16777216) ∧ (1 ≤ L.mn ∧ L.mn ≤ 4096) ∧ 1 ≤ M.mw) := hid1 ⟨⟨by rw [HQ.out.2.1]; exact Nat.mul_pos HQ.out.1.2.2 HQ.out.1.1, HQ.out.2.2.1⟩, ⟨by have := HQ.out; omega, by have := HQ.out; omega⟩, HMQ.out.1⟩
            clear AF10 BT10 HR9 HRL9 HRM9 HOM9 HAF9 HO9 HB9
            refine kgo (by assumption) ?_
            refine po_tail _ _ _ _ _ _ _ _ _ _ _ _ _ _ _ _ _ _ _ _ _ _ _ _ _ _ _ _ _ _ _ _ _ _ _ _ _ _ _ _ _ _ _ _ _ _ _ _ _ _ _ _ _ _ _ _ _ _ _ _ _ _ _ _ _ _ _ _ _ _ _ _ _ _ _ _ _ _ _ _ _ _ _ _ _ _ _ _ _ _ _ _ _ _ _ _ _ _ _ _ _ _ _ _ _ _ _ _ _ _ _ _ _ _ _ _ _ _ _ _ _ _ _ _ _ _ _ _ _ _ _ _ _ _ _ _ _ _ _ _ _ _ _ _ _ _ _ _ _ _ _ _ _ _ _ _ _ _ _ _ _ _ _ _ _ _ _ _ _ _ _ _ _ _ N L M b g14 g15 i j K F X6.heap.size X8.heap.size mx cx ax f op aw8 an8 a1 cw8 cn8 d1 w X10 _ HR10 HOM10 HAF10 HB10 HN HX HCW HZ HTW HMZ HSZ (hid1 ?_)
            intro X11 v19 v20 v21 v22 v151 v152 v153 v154 v155 v156 v157 v158 v159 v160 v161 v162 v163 v164 v165 v166 v167 v168 v169 v170 v171 v172 v173 v174 v175 v176 v177 v178 v179 B11
            go_ret
            exact ⟨rfl, by first | exact B11 | (rw [← hb0]; exact B11)⟩
        · exact absurd (Nat.le_of_not_lt hlt) (next_in HZ.out hi HI.out.2 HPO.out)
end Go.Proofs.YtlgjoepeibodkaaGreat.Nn
namespace Go.Proofs.YtlgjoepeibodkaaGreat
open Go.ChangeShapes Go.WideShapes Go.ChangeAt Go.RowKit

set_option maxRecDepth 100000 in
theorem plainOrder_lifted (os : Os) (started : os.Started) (H : Type) (enc : TypeId × Value → H) :
    ReturnsInHanded {} Tryz.checked os 4 .any (Rows.plainOrderSpec.pre6 enc Tryz.prog Tryz.f4 Rows.plainOrderRow.domain false) (Rows.plainOrderSpec.post enc Tryz.prog Tryz.f4 false true false false) := by
  refine returnsInHanded_of_change_sized (C := Tryz.checked) own started (by kernel_rfl) Tryz.func4
    (ChangeSpec.witness6 (enc := enc) (C := Tryz.checked) false ⟨#[], #[.agg #[.string ⟨#[]⟩, .int .i64 0, .int .i64 0, .int .i64 0, .slice none 0 0], .slice none 0 0, .int .i64 0, .slice none 0 0], []⟩ 8 (by kernel_rfl) (by kernel_rfl) (by kernel_rfl) (by kernel_rfl)) ?_
  intro W base args ds gs before hval0 hW _ _ _
  have hval : ∀ (j : Nat) t v, Tryz.f4.params[j]? = some t → args[j]? = some v → Value.okWide Tryz.prog W .any base t v := hval0
  have hW' := hW
  obtain ⟨p, q, hA0, hV, rfl, hfz, hnd⟩ := hW
  have hA : DataW.TrodAll enc Tryz.prog W 0 (fun _ => true) true Tryz.f4.params.toList args.toList ds p := hA0
  rw [Tryz.params4] at hA hval
  obtain ⟨v0, vs0, d0, ds0, p0, q0, hargs, rfl, rfl, h0, r0⟩ := trodAll_cons hA
  obtain ⟨v1, vs1, d1, ds1, p1, q1, rfl, rfl, rfl, h1, r1⟩ := trodAll_cons r0
  obtain ⟨v2, vs2, d2, ds2, p2, q2, rfl, rfl, rfl, h2, r2⟩ := trodAll_cons r1
  obtain ⟨v3, vs3, d3, ds3, p3, q3, rfl, rfl, rfl, h3, r3⟩ := trodAll_cons r2
  obtain ⟨rfl, rfl, rfl⟩ := trodAll_nil r3
  obtain rfl : args = #[v0, v1, v2, v3] := by cases args; simp_all
  obtain ⟨rfl, rfl⟩ := trodVars_none hV
  have lt0 : ∀ x ∈ p0, x.block < W.heap.size := by obtain ⟨m, hm⟩ := h0; exact DataW.trod_lt m _ _ _ hm
  have k0 := h0
  have lt1 : ∀ x ∈ p1, x.block < W.heap.size := by obtain ⟨m, hm⟩ := h1; exact DataW.trod_lt m _ _ _ hm
  have k1 := h1
  have lt2 : ∀ x ∈ p2, x.block < W.heap.size := by obtain ⟨m, hm⟩ := h2; exact DataW.trod_lt m _ _ _ hm
  have k2 := h2
  have lt3 : ∀ x ∈ p3, x.block < W.heap.size := by obtain ⟨m, hm⟩ := h3; exact DataW.trod_lt m _ _ _ hm
  have k3 := h3
  obtain ⟨N0, rfl, nw0, nl0, nc0⟩ := open_net (hval 0 26 v0 rfl rfl) h0
  obtain ⟨ao1, m1, c1, fn1, rfl, hm1, hc1, f1⟩ := open_u8s (hval 1 27 v1 rfl rfl) h1
  obtain ⟨x2, rfl, rfl, rfl, w2⟩ := open_int Tryz.underlying3 (hval 2 3 v2 rfl rfl) h2
  obtain ⟨ao3, m3, c3, fn3, rfl, hm3, hc3, f3⟩ := open_intsN (hval 3 51 v3 rfl rfl) h3
  clear hA0 hval0
  refine (Nn.plainOrder_any N0 ao1 m1 c1 fn1 x2 ao3 m3 c3 fn3 W nw0 (fun j hj => (nc0 j hj).1) (fun k hk => by obtain ⟨h, g, o, e, c⟩ := f1 k hk; exact ⟨g, o, e, c, h.1, h.2⟩) f3).mono fun e W' ⟨he, bel⟩ => ?_
  subst he
  exact ⟨_, rfl, _, _, _, [], _, [], hW', trodAll_mk1 (shut_bool Tryz.underlying4 _), (trodAll_cons_mk (Below.trod laidOut (by kernel_rfl) (of_decide_eq_true (by kernel_rfl)) k0 bel lt0) (trodAll_cons_mk (Below.trod laidOut (by kernel_rfl) (of_decide_eq_true (by kernel_rfl)) k1 bel lt1) (trodAll_cons_mk (Below.trod laidOut (by kernel_rfl) (of_decide_eq_true (by kernel_rfl)) k2 bel lt2) (trodAll_cons_mk (Below.trod laidOut (by kernel_rfl) (of_decide_eq_true (by kernel_rfl)) k3 bel lt3) trodAll_mk0)))), rfl, bel.frame _, fun h => by cases h⟩

theorem plainOrder_holds : Rows.PlainOrderSaid :=
  OpenClaim.holds_of_wide 4 Tryz.f4 rfl rfl rfl rfl rfl rfl rfl ⟨rfl, rfl, rfl, rfl, rfl⟩ rfl rfl rfl rfl rfl (by kernel_rfl) Tryz.func4 (by kernel_rfl)
    (of_decide_eq_true (by kernel_rfl)) (by unfold Func.isWrapper; first | (rw [if_pos (by decide +kernel)]; kernel_rfl) | (rw [if_neg (by decide +kernel)]; exact ⟨rfl, rfl⟩))
    (fun os started H enc _ => plainOrder_lifted os started H enc)
#print axioms plainOrder_holds
end Go.Proofs.YtlgjoepeibodkaaGreat
