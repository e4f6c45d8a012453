import Derived.Test.YtlgjoepeibodkaaGreatQDPlainTurned
import Derived.Deep.MidRow
import Derived.Test.YtlgjoepeibodkaaGreatQCPlainTurned
import Derived.Laws.OwnMore
import Derived.Deep.RegionHeld3
import Derived.Deep.CutBlock
import Derived.Test.YtlgjoepeibodkaaGreatQAPlainTurned
/- PLAIN'S STATEMENTS: a network with another layer in the place of one. -/
namespace Go.Proofs.YtlgjoepeibodkaaGreat.Nn
open Go.RowKit

/-- A list with others laid into it from a place on. -/
def putW : List Value → Nat → List Value → List Value
  | xs, _, [] => xs
  | xs, o, v :: r => putW (xs.set o v) (o + 1) r
theorem putW_get : ∀ (vs : List Value) (xs : List Value) (o k : Nat), o + vs.length ≤ xs.length → (putW xs o vs)[k]? = if o ≤ k ∧ k < o + vs.length then vs[k - o]? else xs[k]?
  | [], xs, o, k, _ => by rw [putW, if_neg (by simp only [List.length_nil]; omega)]
  | v :: r, xs, o, k, h => by
    simp only [List.length_cons] at h ⊢
    rw [putW, putW_get r (xs.set o v) (o + 1) k (by rw [List.length_set]; omega)]
    by_cases hk : k = o
    · subst hk
      rw [if_neg (by omega), if_pos (by omega), Nat.sub_self, List.getElem?_set_self (by omega)]
      rfl
    · by_cases h1 : o + 1 ≤ k ∧ k < o + 1 + r.length
      · rw [if_pos h1, if_pos (by omega), show k - o = (k - (o + 1)) + 1 by omega, List.getElem?_cons_succ]
      · rw [if_neg h1, if_neg (by omega), List.getElem?_set_ne (by omega)]
theorem own_setW {base e size g n cap : Nat} : ∀ (vs : List Value) (o : Nat) (W : World) (xs : List Value), W.ownsRow base e size (.slice (some ⟨g, 0, none⟩) n cap) n xs → (W.setCells g o vs).ownsRow base e size (.slice (some ⟨g, 0, none⟩) n cap) n (putW xs o vs) ∧ W.grownBy (W.setCells g o vs) (some g)
  | [], _, W, _, h => ⟨h, gr_refl W _⟩
  | v :: r, o, W, xs, h => by
    obtain ⟨h1, h2⟩ := h.stored o v
    obtain ⟨h3, h4⟩ := own_setW r (o + 1) _ _ h1
    exact ⟨h3, gr_step h2 h4 (.inl rfl)⟩
theorem ls_putW {lf : Nat → Ly} {M i : Nat} (hi : i < M) (L : Ly) : putW (lyLs lf M) (i * 15) (lyC L) = lyLs (sn lf i L) M := by
  apply List.ext_getElem?
  intro k
  have hl : (lyLs lf M).length = M * 15 := rl_len (s := 15) (fun _ => rfl) M
  have hl2 : (lyLs (sn lf i L) M).length = M * 15 := rl_len (s := 15) (fun _ => rfl) M
  have hc : (lyC L).length = 15 := rfl
  rw [putW_get _ _ _ _ (by rw [hl, hc]; omega), hc]
  by_cases hk : k < M * 15
  · have e : k = (k / 15) * 15 + k % 15 := by omega
    have h1 : (lyLs (sn lf i L) M)[k]? = (lyC (sn lf i L (k / 15)))[k % 15]? := by
      conv => lhs; rw [e]
      exact rl_get (s := 15) (fun _ => rfl) M (by omega) (by omega)
    have h2 : (lyLs lf M)[k]? = (lyC (lf (k / 15)))[k % 15]? := by
      conv => lhs; rw [e]
      exact rl_get (s := 15) (fun _ => rfl) M (by omega) (by omega)
    rw [h1, h2]
    by_cases hj : k / 15 = i
    · rw [if_pos (by omega), show k - i * 15 = k % 15 by omega]
      unfold sn
      rw [if_pos hj]
    · rw [if_neg (by omega)]
      unfold sn
      rw [if_neg hj]
  · rw [if_neg (by omega), List.getElem?_eq_none (by omega), List.getElem?_eq_none (by omega)]
theorem ls_cellW {W : World} {base G uc M i c : Nat} {lf : Nat → Ly} (h : W.ownsRow base 38 15 (.slice (some ⟨G, 0, none⟩) M uc) M (lyLs lf M)) (hi : i < M) (hc : c < 15) : W.cell? ⟨G, i * 15 + c, none⟩ = (lyC (lf i))[c]? := by
  rw [h.cellAt _ (by omega)]
  exact rl_get (s := 15) (fun _ => rfl) M hi hc
theorem ls_thereW {W : World} {base G uc M i : Nat} {lf : Nat → Ly} (h : W.ownsRow base 38 15 (.slice (some ⟨G, 0, none⟩) M uc) M (lyLs lf M)) (hi : i < M) : W.there G (i * 15) 15 := fun c hc => ⟨by rw [ls_cellW h hi hc, List.getElem?_eq_getElem (by show c < (lyC (lf i)).length; exact hc)]; rfl, h.frozenAt _⟩
theorem info_lyW : (Tryz.prog.info? 38).map (·.size) = some 15 := by kernel_rfl
theorem lyC_oneW (L : Ly) : (lyC L).toArray.all (·.oneCell') = true := by simp [lyC, Value.oneCell']
theorem netF_allW {W : World} {b : Nat} {nm : ByteArray} {H V C : Int} {u : Value} {F : Nat → Value} (h : W.rowIs b 26 5 F) : (((((W.setCell ⟨b, 0, none⟩ (.string nm)).setCell ⟨b, 1, none⟩ (.int .i64 H)).setCell ⟨b, 2, none⟩ (.int .i64 V)).setCell ⟨b, 3, none⟩ (.int .i64 C)).setCell ⟨b, 4, none⟩ u).rowIs b 26 5 (netF nm H V C u) := by
  refine (((((h.set 0 (.string nm)).set 1 (.int .i64 H)).set 2 (.int .i64 V)).set 3 (.int .i64 C)).set 4 u).congr fun q hq => ?_
  rcases (show q = 0 ∨ q = 1 ∨ q = 2 ∨ q = 3 ∨ q = 4 by omega) with rfl | rfl | rfl | rfl | rfl <;> rfl
/-- The network with another layer in a place. -/
abbrev wiN (N : Nt) (i : Nat) (L : Ly) (ua : Option Addr) (uc : Nat) : Nt := ⟨N.nm, N.h, N.v, N.c, ua, N.ml, uc, sn N.lf i L⟩
/-- Layers in a row of their own, their lists wherever they lie. -/
theorem wi_net {W : World} {base : Nat} {N : Nt} {i : Nat} {L : Ly} {ua : Option Addr} {uc : Nat} (hi : i < N.ml) (hm : N.ml ≤ 64) (hn : N.nm.size ≤ 9223372036854775807) (own : W.ownsRow base 38 15 (.slice ua N.ml uc) N.ml (lyLs (sn N.lf i L) N.ml)) (hl : ∀ j, j < N.ml → Lst W (sn N.lf i L j)) : NtW W (wiN N i L ua uc) := by
  obtain ⟨g, e, -, -, -, hc⟩ := own_cellsS own (by omega)
  refine ⟨fun j hj => ⟨g, 0, e, ?_, hl j hj⟩, by show N.ml ≤ _; omega, hn⟩
  have hj : j < N.ml := hj
  have key : ∀ c, c < 15 → W.cell? ⟨g, 0 + j * 15 + c, none⟩ = (lyC (sn N.lf i L j))[c]? := fun c hc' => by
    rw [Nat.zero_add, hc _ (by omega)]
    exact rl_get (s := 15) (fun _ => rfl) N.ml hj hc'
  exact ⟨key 0 (by decide), key 1 (by decide), key 2 (by decide), key 3 (by decide), key 4 (by decide), key 5 (by decide), key 6 (by decide), key 7 (by decide), key 8 (by decide), key 9 (by decide), key 10 (by decide), key 11 (by decide), key 12 (by decide), key 13 (by decide), key 14 (by decide)⟩
set_option maxHeartbeats 6400000 in
set_option maxRecDepth 100000 in
theorem with_any (N : Nt) (i : Nat) (hi : i < N.ml) (hm : N.ml ≤ 64) (L : Ly) (w : World) (hN : NtW w N) (hL : Lst w L) :
    Calls Tryz.prog 9 #[ntv N, .int .i64 i, lyv L] w fun e w' => ∃ ua uc, e = .returned (ntv (wiN N i L ua uc)) ∧ NtW w' (wiN N i L ua uc) ∧ Below w.heap.size w w' := by
  have HN := hid1 hN
  have HLL := hid1 hL
  clear hN hL
  obtain ⟨b, hb0⟩ : ∃ b, w.heap.size = b := ⟨_, rfl⟩
  have HB0 := hid1 hb0
  have HAP := hid1 (fun (ops : Array Oper) (rest : List Oper) (o : Oper) (a : Act) (Q : Exit → Act → World → Prop) (W : World) (hW : Below w.heap.size w W) (hgd : o.guard = none) (s x : Operand) (ho : o.op = .call { callee := .builtin .append, args := #[s, x], argTypes := #[24, 24] }) (hs : a.eval s = .slice none 0 0) (hx : a.eval x = .slice N.al N.ml N.cl) => app_clL (ops := ops) (rest := rest) (Q := Q) (w := W) hgd s x ho N hs hx (HN.out.keep hW) ⟨by omega, hm⟩)
  have HI := hid1 (And.intro hi hm)
  have ii0 : (0 : Int) ≤ (i : Int) := by omega
  have ii : (i : Int) < (N.ml : Int) := by omega
  have hMb : N.ml ≤ 1000000000000 := by omega
  clear hi hm
  go_enter Tryz.func9, Tryz.ntmps9
  go_upto_region 1 with fail
  refine gen_world (fun X => Below w.heap.size w X ∧ X.rowIs b 26 5 (netF N.nm N.h N.v N.c (.slice N.al N.ml N.cl)) ∧ X.rowIs (b + 1) 38 15 (lyf L) ∧ X.rowIs (b + 2) 26 5 (netF ⟨#[]⟩ 0 0 0 (.slice none 0 0)) ∧ b + 3 ≤ X.heap.size) ?gw ?_
  case gw =>
    subst hb0
    refine ⟨by repeat (first | (with_reducible exact Below.refl _ _) | (with_reducible refine bl_alloc ?_ _) | (with_reducible refine Below.drew ?_)), ((net_newF w N.nm N.h N.v N.c (.slice N.al N.ml N.cl) _).alloc _).alloc _, ?_, ?_, by simp⟩
    · have := (lyf_new (w.alloc (.cells #[.string N.nm, .int .i64 N.h, .int .i64 N.v, .int .i64 N.c, .slice N.al N.ml N.cl] 26)) L 38).alloc (.cells #[.string ⟨#[]⟩, .int .i64 0, .int .i64 0, .int .i64 0, .slice none 0 0] 26)
      simpa using this
    · have := net_newF ((w.alloc (.cells #[.string N.nm, .int .i64 N.h, .int .i64 N.v, .int .i64 N.c, .slice N.al N.ml N.cl] 26)).alloc (lyo L)) ⟨#[]⟩ 0 0 0 (.slice none 0 0) 26
      simpa using this
  rintro X ⟨BX, R0, R1, R2, zX⟩
  have HR0 := hid1 R0
  have HR1 := hid1 R1
  have HR2 := hid1 R2
  have n4 : X.cell? ⟨b, 4, none⟩ = some (.slice N.al N.ml N.cl) := R0.cell (i := 4) (by decide)
  have z4 := R0.frozen 4
  have HBX := hid1 BX
  clear R0 R1 R2 BX
  have HSZ := hid1 zX
  clear zX
  go_upto_region 2 with (at_builtin; refine HAP.out _ _ _ _ _ X HBX.out rfl _ _ rfl (by go_simp) (by go_simp) ?_; intro v1 y1 own1 bb1; obtain ⟨a1, d1, rfl⟩ := own_isP own1; have HO1 := hid1 own1; have HB1 := hid1 bb1; have R0 := World.rowIs.of_block HR0.out (bb1.block _ HR0.out.lt); have m4 : y1.cell? ⟨b, 4, none⟩ = some (.slice N.al N.ml N.cl) := R0.cell (i := 4) (by decide); have f4 := R0.frozen 4; clear own1 bb1 R0)
  refine gen_world (fun Y => Y.rowIs b 26 5 (netF N.nm N.h N.v N.c (.slice a1 N.ml d1)) ∧ Y.rowIs (b + 1) 38 15 (lyf L) ∧ Y.rowIs (b + 2) 26 5 (netF ⟨#[]⟩ 0 0 0 (.slice none 0 0)) ∧ Y.ownsRow (b + 3) 38 15 (.slice a1 N.ml d1) N.ml (lyLs N.lf N.ml) ∧ b + 3 ≤ Y.heap.size ∧ Below w.heap.size w Y) ?gw2 ?_
  case gw2 =>
    have hb := HB1.out
    have hs := HSZ.out
    refine ⟨?_, (World.rowIs.of_block HR1.out (hb.block _ HR1.out.lt)).setOther (by show b + 1 ≠ b; omega) _, (World.rowIs.of_block HR2.out (hb.block _ HR2.out.lt)).setOther (by show b + 2 ≠ b; omega) _, own_setD (HO1.out.mono hs) (by omega), by have := hb.size; simp; omega, bl_set (bl_step HBX.out hb) (by omega) _⟩
    refine ((World.rowIs.of_block HR0.out (hb.block _ HR0.out.lt)).set 4 _).congr fun i hi => ?_
    rcases (show i = 0 ∨ i = 1 ∨ i = 2 ∨ i = 3 ∨ i = 4 by omega) with rfl | rfl | rfl | rfl | rfl <;> rfl
  clear HO1 HB1 m4 f4 n4 z4 HR0 HR1 HR2 HBX HSZ
  rintro Y ⟨R0, R1, R2, OW, zY, BY⟩
  obtain ⟨G, rfl, -, -, -, -⟩ := own_cellsS OW (by have := HI.out; omega)
  have HST : Hid ((Y.setCells G (i * 15) (lyC L)).ownsRow (b + 3) 38 15 (.slice (some ⟨G, 0, none⟩) N.ml d1) N.ml (lyLs (sn N.lf i L) N.ml) ∧ Y.grownBy (Y.setCells G (i * 15) (lyC L)) (some G) ∧ b + 3 ≤ G) := hid1 (by
    obtain ⟨o1, o2⟩ := own_setW (lyC L) (i * 15) Y _ OW
    rw [ls_putW HI.out.1] at o1
    exact ⟨o1, o2, (OW.lt G rfl).1⟩)
  have HTH : Hid (Y.there G (i * 15) 15) := hid1 (ls_thereW OW HI.out.1)
  have n4 : Y.cell? ⟨b, 4, none⟩ = some (.slice (some ⟨G, 0, none⟩) N.ml d1) := R0.cell (i := 4) (by decide)
  obtain ⟨l0, l1, l2, l3, l4, l5, l6, l7, l8, l9, l10, l11, l12, l13, l14⟩ := lyf_cells R1
  have HR0 := hid1 R0
  have HR2 := hid1 R2
  have HBY := hid1 BY
  have HZY := hid1 zY
  clear R0 R1 R2 OW zY BY
  go_upto_region 3 with (refine wpList_store_mid rfl 38 _ _ rfl G (i * 15) (lyC L).toArray (by go_simp) (by go_simp; rfl) HTH.out info_lyW (lyC_oneW L) ?_; have hst := HST.out; clear HTH l0 l1 l2 l3 l4 l5 l6 l7 l8 l9 l10 l11 l12 l13 l14 n4)
  refine gen_world (fun Z => Z.rowIs b 26 5 (netF N.nm N.h N.v N.c (.slice (some ⟨G, 0, none⟩) N.ml d1)) ∧ Z.rowIs (b + 2) 26 5 (netF ⟨#[]⟩ 0 0 0 (.slice none 0 0)) ∧ Z.ownsRow (b + 3) 38 15 (.slice (some ⟨G, 0, none⟩) N.ml d1) N.ml (lyLs (sn N.lf i L) N.ml) ∧ Below w.heap.size w Z) ?gw3 ?_
  case gw3 =>
    obtain ⟨o1, o2, o3⟩ := hst
    have hl0 := HR0.out.lt
    have hl2 := HR2.out.lt
    exact ⟨World.rowIs.of_block HR0.out (o2.block b hl0 (by simp; omega)), World.rowIs.of_block HR2.out (o2.block (b + 2) hl2 (by simp; omega)), o1, gr_bel o2 HBY.out (fun q hq => by cases hq; omega)⟩
  clear hst HST HR0 HR2 HBY HZY
  rintro Z ⟨R0, R2, OW, BZ⟩
  have HOW := hid1 OW
  have HBZ := hid1 BZ
  have HR2 := hid1 R2
  have n0 : Z.cell? ⟨b, 0, none⟩ = some (.string N.nm) := R0.cell (i := 0) (by decide)
  have n1 : Z.cell? ⟨b, 1, none⟩ = some (.int .i64 N.h) := R0.cell (i := 1) (by decide)
  have n2 : Z.cell? ⟨b, 2, none⟩ = some (.int .i64 N.v) := R0.cell (i := 2) (by decide)
  have n3 : Z.cell? ⟨b, 3, none⟩ = some (.int .i64 N.c) := R0.cell (i := 3) (by decide)
  have n4 : Z.cell? ⟨b, 4, none⟩ = some (.slice (some ⟨G, 0, none⟩) N.ml d1) := R0.cell (i := 4) (by decide)
  have r0 : Z.cell? ⟨b + 1 + 1, 0, none⟩ = some (.string ⟨#[]⟩) := R2.cell (i := 0) (by decide)
  have r1 : Z.cell? ⟨b + 1 + 1, 1, none⟩ = some (.int .i64 0) := R2.cell (i := 1) (by decide)
  have r2 : Z.cell? ⟨b + 1 + 1, 2, none⟩ = some (.int .i64 0) := R2.cell (i := 2) (by decide)
  have r3 : Z.cell? ⟨b + 1 + 1, 3, none⟩ = some (.int .i64 0) := R2.cell (i := 3) (by decide)
  have r4 : Z.cell? ⟨b + 1 + 1, 4, none⟩ = some (.slice none 0 0) := R2.cell (i := 4) (by decide)
  have f0 : Z.frozen? ⟨b + 1 + 1, 0, none⟩ = false := R2.frozen 0
  have f1 : Z.frozen? ⟨b + 1 + 1, 1, none⟩ = false := R2.frozen 1
  have f2 : Z.frozen? ⟨b + 1 + 1, 2, none⟩ = false := R2.frozen 2
  have f3 : Z.frozen? ⟨b + 1 + 1, 3, none⟩ = false := R2.frozen 3
  have f4 : Z.frozen? ⟨b + 1 + 1, 4, none⟩ = false := R2.frozen 4
  clear R0 R2 OW BZ
  go_wp2_with fail
  refine bodyPost_ret (results_cell_row Tryz.results9 _ _ (b + 1 + 1) 26 _ (0, 0) _ (by go_simp) (row5 (netF_allW HR2.out)) Tryz.underlying26 rfl (by kernel_rfl)) rfl ?_
  have hb1 : w.heap.size ≤ b + 1 + 1 := by have := HB0.out; omega
  have hbz := bl_set (bl_set (bl_set (bl_set (bl_set HBZ.out hb1 (.string N.nm) (o := 0)) hb1 (.int .i64 N.h) (o := 1)) hb1 (.int .i64 N.v) (o := 2)) hb1 (.int .i64 N.c) (o := 3)) hb1 (.slice (some ⟨G, 0, none⟩) N.ml d1) (o := 4)
  refine ⟨some ⟨G, 0, none⟩, d1, rfl, wi_net (base := b + 3) HI.out.1 HI.out.2 HN.out.2.2 (own_setD (own_setD (own_setD (own_setD (own_setD HOW.out (by omega)) (by omega)) (by omega)) (by omega)) (by omega)) (fun j hj => ?_), hbz⟩
  unfold sn
  by_cases hji : j = i
  · rw [if_pos hji]
    exact HLL.out.keep hbz
  · rw [if_neg hji]
    obtain ⟨_, _, _, _, h⟩ := HN.out.1 j hj
    exact h.keep hbz
end Go.Proofs.YtlgjoepeibodkaaGreat.Nn
/- PLAINBORDER: both traces. -/
namespace Go.Proofs.YtlgjoepeibodkaaGreat.Nn
open Go.RowKit

theorem sz_el {N : Nt} (hz : chE N = 0) {i : Nat} (hi : i ≤ N.ml) : ((szN N i : Nat) : Int) = (sp N i).h * (sp N i).v * (sp N i).c := by
  obtain ⟨⟨⟨a1, a2⟩, ⟨a3, a4⟩, ⟨a5, a6⟩⟩, -⟩ := chk_prod (chk_sp hz i hi)
  unfold szN cN
  obtain ⟨H, eH⟩ := Int.eq_ofNat_of_zero_le (show 0 ≤ (sp N i).h by omega)
  obtain ⟨V, eV⟩ := Int.eq_ofNat_of_zero_le (show 0 ≤ (sp N i).v by omega)
  obtain ⟨C, eC⟩ := Int.eq_ofNat_of_zero_le (show 0 ≤ (sp N i).c by omega)
  rw [eH, eV, eC]
  push_cast
  rfl
abbrev StN (W : World) (N : Nt) (f : Nat → Int) (g : Nat) : Prop := StR W (some ⟨g, 0, none⟩) N.ml (fun j => (sp N (j + 1)).h) (fun j => (sp N (j + 1)).v) (fun j => (sp N (j + 1)).c) (fun j => szN N (j + 1)) (fun j => valN N (fun i => s8 (f i)) (j + 1))
theorem bo_trace {N : Nt} (hz : chE N = 0) (hcw : ∀ j, j < N.ml → (N.lf j).mw ≤ (N.lf j).cw) (ht : toN N ≤ 4194304) {m : Nat} (hsz : (m : Int) = N.h * N.v * N.c) (ao : Option Addr) (cap : Nat) (f : Nat → Int) (W : World) (hN : NtW W N) (hx : RB W ao m f) :
    Calls Tryz.prog 8 #[ntv N, .slice ao m cap] W fun e w' => ∃ g c, e = .returned (.tuple #[.slice (some ⟨g, 0, none⟩) N.ml c, .int .i64 0]) ∧ StN w' N f g ∧ Below W.heap.size W w' := by
  have hm : szN N 0 = m := by
    have := sz_el hz (Nat.zero_le N.ml)
    have h2 : ((szN N 0 : Nat) : Int) = N.h * N.v * N.c := this
    rw [← hsz] at h2
    exact Int.ofNat.inj h2
  subst hm
  refine (ptrace_all N hz hcw ht ao cap f (fun j hj => ?_) W hN hx).mono fun e w' h => ?_
  · obtain ⟨_, _, _, _, h1, h2⟩ := hx j hj
    exact ⟨h1, by omega⟩
  · obtain ⟨u, gl, cl, rfl, hT, hb⟩ := h
    obtain ⟨g, c, rfl, -, hS⟩ := hT.str (wh_parts (fl_all hz).1).2.2.1 (fun j hj => ⟨sz_one hz hcw hj, by
      have h1 := sz_el hz (show j + 1 ≤ N.ml by omega)
      have h2 := (el_sp hz (show j + 1 ≤ N.ml by omega)).2.2
      omega⟩)
    exact ⟨g, c, rfl, hS, hb⟩
theorem to_fits {N : Nt} (hz : chE N = 0) (hwo : woV N N.ml ≤ 4194304) : toN N ≤ 4194304 := by
  have := to_wo hz N.ml (Nat.le_refl _)
  unfold toN
  omega
theorem own_rb {W : World} {base k lc : Nat} {la : Option Addr} {f : Nat → Int} (h : W.ownsRow base 5 1 (.slice la k lc) k (u8L ((List.range k).map f))) (hf : ∀ j, 0 ≤ f j ∧ f j < 256) : RB W la k f := fun j hj => by
  obtain ⟨g, e, -, -, -, hc⟩ := own_cellsS h (by omega)
  refine ⟨g, 0, e, ?_, hf j⟩
  rw [Nat.zero_add, hc j (by omega)]
  simp [u8L, hj]
/-- The trace of the network whose border is laid out. -/
theorem bo_trace2 {N : Nt} {L : Ly} (hz : chE N = 0) (hL : N.lf 0 = L) (hk : L.kd = 1) (hcw : ∀ j, j < N.ml → (N.lf j).mw ≤ (N.lf j).cw) (hwo : woV N N.ml ≤ 4194304) {H1 V1 : Int} (hE : H1 = N.h + L.t + L.b ∧ V1 = N.v + L.l + L.q) {H V H' V' C m k : Nat} (eq : N.h = H ∧ N.v = V ∧ N.c = C ∧ H1 = H' ∧ V1 = V') (hm : m = H * V * C) (hb : (H' ≤ 4096 ∧ V' ≤ 4096) ∧ H' * V' * C ≤ 100000) (hkk : k = H' * V' * C) {base lc : Nat} {la ao ua : Option Addr} {uc : Nat} {f : Nat → Int} {W : World}
    (hN : NtW W (wiN ⟨N.nm, H1, V1, N.c, N.al, N.ml, N.cl, N.lf⟩ 0 (noB L) ua uc)) (hx : RB W ao m f) (own : W.ownsRow base 5 1 (.slice la k lc) k (u8L (byL f L.t L.l L.bd H V V' C k))) :
    Calls Tryz.prog 8 #[ntv (wiN ⟨N.nm, H1, V1, N.c, N.al, N.ml, N.cl, N.lf⟩ 0 (noB L) ua uc), .slice la k lc] W fun e w' => ∃ g c, e = .returned (.tuple #[.slice (some ⟨g, 0, none⟩) N.ml c, .int .i64 0]) ∧ StN w' N f g ∧ Below W.heap.size W w' := by
  subst hL
  obtain ⟨-, ⟨⟨a1, a2⟩, ⟨a3, a4⟩, a5, a6⟩, ⟨⟨b1, b2⟩, ⟨b3, b4⟩, ⟨b5, b6⟩, b7, b8⟩, d1, d2⟩ := bo_first hz hk
  obtain ⟨e1, e2, e3, e4, e5⟩ := eq
  have hB : Bo N (wiN ⟨N.nm, H1, V1, N.c, N.al, N.ml, N.cl, N.lf⟩ 0 (noB (N.lf 0)) ua uc) := bo_made hz hk hE.1 hE.2 (by omega) (by omega) (by
    rw [e4, e5, e3, ← Int.natCast_mul, ← Int.natCast_mul]
    have := hb.2
    omega) sn_eq (fun j hj => if_neg (by omega))
  have hzM := bo_ok hz hB
  have hfb : ∀ q, q < H * V * C → 0 ≤ f q ∧ f q < 256 := fun q hq => by
    obtain ⟨_, _, _, _, h⟩ := hx q (by omega)
    exact h
  refine (bo_trace (m := k) hzM (fun j hj => ?_) (by rw [bo_to hz hB]; exact to_fits hz hwo) ?_ la lc (byB f (N.lf 0).t (N.lf 0).l (N.lf 0).bd H V V' C) W hN (own_rb own (fun j => by_bd (by omega) hfb j))).mono fun e w' h => ?_
  · show (sn N.lf 0 (noB (N.lf 0)) j).mw ≤ (sn N.lf 0 (noB (N.lf 0)) j).cw
    unfold sn
    by_cases h0 : j = 0
    · subst h0
      rw [if_pos rfl]
      exact hcw 0 hj
    · rw [if_neg h0]
      exact hcw j hj
  · show (k : Int) = H1 * V1 * N.c
    rw [e4, e5, e3, ← Int.natCast_mul, ← Int.natCast_mul, hkk]
  · obtain ⟨g, c, rfl, hS, hb'⟩ := h
    refine ⟨g, c, rfl, ?_, hb'⟩
    refine StR.congr hS fun j hj => ?_
    refine bo_steps hz hB (x := fun i => s8 (f i)) (y := fun i => s8 (byB f (N.lf 0).t (N.lf 0).l (N.lf 0).bd H V V' C i)) ?_ j hj
    rw [show N.h.toNat = H by omega, show N.v.toNat = V by omega, show N.c.toNat = C by omega, show Int.toNat (Nt.h (wiN ⟨N.nm, H1, V1, N.c, N.al, N.ml, N.cl, N.lf⟩ 0 (noB (N.lf 0)) ua uc)) = H' by show H1.toNat = H'; omega, show Int.toNat (Nt.v (wiN ⟨N.nm, H1, V1, N.c, N.al, N.ml, N.cl, N.lf⟩ 0 (noB (N.lf 0)) ua uc)) = V' by show V1.toNat = V'; omega]
    exact by_laid d1 d2
end Go.Proofs.YtlgjoepeibodkaaGreat.Nn
/- PLAINTURNED: outputs turned, the mathematics. -/
namespace Go.Proofs.YtlgjoepeibodkaaGreat.Nn
open Go.RowKit

def tuW (ws : Nat → Int) (F : Nat) (wh : Nat → Bool) (j : Nat) : Int := if wh (j / F) = true then -ws j else ws j
def tuN (ns : Nat → Nat → Int) (wh : Nat → Bool) (k c : Nat) : Int := if wh k = true ∧ (c = 0 ∨ c = 4) then -ns k c else ns k c
/-- A layer with some outputs turned, its weights and norms elsewhere. -/
abbrev tuL (L : Ly) (F : Nat) (wh : Nat → Bool) (aw : Option Addr) (cw : Nat) (an : Option Addr) (cn : Nat) : Ly := ⟨L.kd, L.wt, L.k, L.r, L.s, L.sy, L.sx, L.t, L.l, L.b, L.q, L.bd, aw, L.mw, cw, an, L.mn, cn, L.ab, L.mb, L.cb, tuW L.ws F wh, tuN L.ns wh, L.bs⟩
theorem sm_neg (f x : Nat → Int) : ∀ n, smV (fun j => -f j) x n = -smV f x n
  | 0 => rfl
  | n + 1 => by
    rw [smV, smV, sm_neg f x n, Int.neg_mul]
    omega
theorem sm_congl {f g x : Nat → Int} : ∀ {n : Nat}, (∀ j, j < n → f j = g j) → smV f x n = smV g x n
  | 0, _ => rfl
  | n + 1, h => by rw [smV, smV, sm_congl (n := n) fun j hj => h j (by omega), h n (by omega)]
theorem no_turn (gn gd bn bd mn md sn sd : Int) : Wd.noE (-gn) gd bn bd (-mn) md sn sd = Wd.noE gn gd bn bd mn md sn sd := by
  unfold Wd.noE
  have e : (Wd.Fr (-gn) gd ∧ Wd.Fr bn bd ∧ Wd.Fr (-mn) md ∧ Wd.Fr sn sd) ↔ (Wd.Fr gn gd ∧ Wd.Fr bn bd ∧ Wd.Fr mn md ∧ Wd.Fr sn sd) := by unfold Wd.Fr; omega
  by_cases h : Wd.Fr gn gd ∧ Wd.Fr bn bd ∧ Wd.Fr mn md ∧ Wd.Fr sn sd
  · rw [if_pos h, if_pos (e.2 h)]
  · rw [if_neg h, if_neg (fun k => h (e.1 k))]
theorem no_turn2 (gn gd bn bd mn md sn sd : Int) : noE (-gn) gd bn bd (-mn) md sn sd = noE gn gd bn bd mn md sn sd := by
  unfold noE
  have e : (Fr (-gn) gd ∧ Fr bn bd ∧ Fr (-mn) md ∧ Fr sn sd) ↔ (Fr gn gd ∧ Fr bn bd ∧ Fr mn md ∧ Fr sn sd) := by unfold Fr; omega
  by_cases h : Fr gn gd ∧ Fr bn bd ∧ Fr mn md ∧ Fr sn sd
  · rw [if_pos h, if_pos (e.2 h)]
  · rw [if_neg h, if_neg (fun k => h (e.1 k))]
theorem pl_turn (gn gd bn bd mn md sn sd x : Int) : Wd.plV (-gn) gd bn bd (-mn) md sn sd (-x) = Wd.plV gn gd bn bd mn md sn sd x := by
  unfold Wd.plV
  rw [no_turn, Wd.nv_turn]
  have e : decide (Wd.Sm (-x)) = decide (Wd.Sm x) := decide_eq_decide.2 (by unfold Wd.Sm; omega)
  rw [e]
theorem nno_turn {L : Ly} {F : Nat} {wh : Nat → Bool} {aw an : Option Addr} {cw cn : Nat} (j : Nat) : nno (tuL L F wh aw cw an cn) j = nno L j := by
  show noE (tuN L.ns wh j 0) (tuN L.ns wh j 1) (tuN L.ns wh j 2) (tuN L.ns wh j 3) (tuN L.ns wh j 4) (tuN L.ns wh j 5) (tuN L.ns wh j 6) (tuN L.ns wh j 7) = nno L j
  unfold nno tuN
  by_cases h : wh j = true
  · simp only [h, true_and]
    exact no_turn2 _ _ _ _ _ _ _ _
  · simp [h]
theorem nm_turn {L : Ly} {F : Nat} {wh : Nat → Bool} {aw an : Option Addr} {cw cn : Nat} (h : nmE L = 0) : nmE (tuL L F wh aw cw an cn) = 0 := by
  unfold nmE at h
  have h := zero_else (by decide) h
  exact nmE_ok h.1 (fun j hj => by rw [nno_turn]; exact h.2 j hj)
theorem ws_turn {L : Ly} {S : Sp} {F : Nat} {wh : Nat → Bool} {aw an : Option Addr} {cw cn : Nat} (h : wsE L S = 0) : wsE (tuL L F wh aw cw an cn) S = 0 := by
  unfold wsE at h
  have h := zero_else (by decide) h
  refine wsE_ok h.1 (fun j hj => ?_)
  have := h.2 j hj
  show okW L.wt (tuW L.ws F wh j)
  unfold okW at this ⊢
  unfold tuW
  by_cases hw : wh (j / F) = true
  · rw [if_pos hw]; omega
  · rw [if_neg hw]; exact this
theorem en_turn {L : Ly} {S : Sp} {F : Nat} {wh : Nat → Bool} {aw an : Option Addr} {cw cn : Nat} (h : enE L S = 0) : enE (tuL L F wh aw cw an cn) S = 0 := by
  unfold enE at h ⊢
  by_cases hl : S.la = true
  · rw [if_pos hl] at h ⊢; exact h
  · rw [if_neg hl] at h ⊢; exact nm_turn h
theorem fa_turn {L : Ly} {S : Sp} {F : Nat} {wh : Nat → Bool} {aw an : Option Addr} {cw cn : Nat} (h : faE L S = 0) : faE (tuL L F wh aw cw an cn) S = 0 := by
  unfold faE at h ⊢
  by_cases h1 : L.kd = 1
  · rw [if_pos h1] at h
    rw [if_pos (show (tuL L F wh aw cw an cn).kd = 1 from h1)]
    have h := frF_z h
    refine frF_ok fun q hq => ?_
    rcases (show q = 0 ∨ q = 1 ∨ q = 2 ∨ q = 3 ∨ q = 4 ∨ q = 5 ∨ q = 6 ∨ q = 7 ∨ q = 8 ∨ q = 9 by omega) with rfl | rfl | rfl | rfl | rfl | rfl | rfl | rfl | rfl | rfl
    · exact h 0 (by decide)
    · exact h 1 (by decide)
    · exact h 2 (by decide)
    · exact h 3 (by decide)
    · exact h 4 (by decide)
    · exact h 5 (by decide)
    · exact h 6 (by decide)
    · exact ws_turn (h 7 (by decide))
    · first | exact nm_turn (h 8 (by decide)) | exact en_turn (h 8 (by decide))
    · exact h 9 (by decide)
  · rw [if_neg h1] at h
    rw [if_neg (show ¬ (tuL L F wh aw cw an cn).kd = 1 from h1)]
    by_cases h2 : L.kd = 2
    · rw [if_pos h2] at h
      rw [if_pos (show (tuL L F wh aw cw an cn).kd = 2 from h2)]
      have h := frF_z h
      refine frF_ok fun q hq => ?_
      rcases (show q = 0 ∨ q = 1 ∨ q = 2 ∨ q = 3 ∨ q = 4 ∨ q = 5 ∨ q = 6 by omega) with rfl | rfl | rfl | rfl | rfl | rfl | rfl
      · exact h 0 (by decide)
      · exact h 1 (by decide)
      · exact h 2 (by decide)
      · exact h 3 (by decide)
      · first | exact h 4 (by decide) | exact ws_turn (h 4 (by decide))
      · first | exact h 5 (by decide) | exact en_turn (h 5 (by decide)) | exact ws_turn (h 5 (by decide))
      · first | exact h 6 (by decide) | exact en_turn (h 6 (by decide))
    · rw [if_neg h2] at h
      rw [if_neg (show ¬ (tuL L F wh aw cw an cn).kd = 2 from h2)]
      by_cases h3 : L.kd = 3
      · rw [if_pos h3] at h
        rw [if_pos (show (tuL L F wh aw cw an cn).kd = 3 from h3)]
        have h := frF_z h
        refine frF_ok fun q hq => ?_
        rcases (show q = 0 ∨ q = 1 ∨ q = 2 ∨ q = 3 ∨ q = 4 ∨ q = 5 by omega) with rfl | rfl | rfl | rfl | rfl | rfl
        · exact h 0 (by decide)
        · exact h 1 (by decide)
        · exact h 2 (by decide)
        · exact h 3 (by decide)
        · exact h 4 (by decide)
        · exact h 5 (by decide)
      · rw [if_neg h3] at h; cases h
/-- An output turned is that output. -/
theorem ou_turn {L : Ly} {F : Nat} {wh : Nat → Bool} {aw an : Option Addr} {cw cn : Nat} (hF : 1 ≤ F) (hb : L.mb = 0) (x : Nat → Int) (k : Nat) : ouV (tuL L F wh aw cw an cn) F x k = ouV L F x k := by
  unfold ouV beV
  rw [if_neg (show ¬ 0 < (tuL L F wh aw cw an cn).mb by show ¬ 0 < L.mb; omega), if_neg (show ¬ 0 < L.mb by omega)]
  have hd : ∀ j, j < F → (k * F + j) / F = k := fun j hj => by rw [Nat.mul_comm, Nat.mul_add_div (by omega), Nat.div_eq_of_lt hj, Nat.add_zero]
  by_cases h : wh k = true
  · have e : smV (fun j => (tuL L F wh aw cw an cn).ws (k * F + j)) x F = -smV (fun j => L.ws (k * F + j)) x F := by
      rw [← sm_neg]
      refine sm_congl fun j hj => ?_
      show tuW L.ws F wh (k * F + j) = _
      unfold tuW
      rw [hd j hj, if_pos h]
    rw [e]
    have e2 : Wd.plV (tuN L.ns wh k 0) (tuN L.ns wh k 1) (tuN L.ns wh k 2) (tuN L.ns wh k 3) (tuN L.ns wh k 4) (tuN L.ns wh k 5) (tuN L.ns wh k 6) (tuN L.ns wh k 7) (-smV (fun j => L.ws (k * F + j)) x F) = Wd.plV (L.ns k 0) (L.ns k 1) (L.ns k 2) (L.ns k 3) (L.ns k 4) (L.ns k 5) (L.ns k 6) (L.ns k 7) (smV (fun j => L.ws (k * F + j)) x F) := by
      unfold tuN
      simp only [h, true_and]
      exact pl_turn _ _ _ _ _ _ _ _ _
    show (if Wd.plV (tuN L.ns wh k 0) (tuN L.ns wh k 1) (tuN L.ns wh k 2) (tuN L.ns wh k 3) (tuN L.ns wh k 4) (tuN L.ns wh k 5) (tuN L.ns wh k 6) (tuN L.ns wh k 7) (-smV (fun j => L.ws (k * F + j)) x F) = true then (1 : Int) else -1) = _
    rw [e2]
  · have e : smV (fun j => (tuL L F wh aw cw an cn).ws (k * F + j)) x F = smV (fun j => L.ws (k * F + j)) x F := by
      refine sm_congl fun j hj => ?_
      show tuW L.ws F wh (k * F + j) = _
      unfold tuW
      rw [hd j hj, if_neg h]
    rw [e]
    have e2 : ∀ c, tuN L.ns wh k c = L.ns k c := fun c => by unfold tuN; rw [if_neg (fun q => h q.1)]
    show (if Wd.plV (tuN L.ns wh k 0) (tuN L.ns wh k 1) (tuN L.ns wh k 2) (tuN L.ns wh k 3) (tuN L.ns wh k 4) (tuN L.ns wh k 5) (tuN L.ns wh k 6) (tuN L.ns wh k 7) _ = true then (1 : Int) else -1) = _
    rw [e2, e2, e2, e2, e2, e2, e2, e2]
theorem op_turn {L : Ly} {H V C F OW : Nat} {wh : Nat → Bool} {aw an : Option Addr} {cw cn : Nat} (hF : 1 ≤ F) (hb : L.mb = 0) (z : Nat → Int) (j : Nat) : opN (tuL L F wh aw cw an cn) H V C F OW z j = opN L H V C F OW z j := by
  unfold opN
  by_cases h2 : L.kd = 2
  · rw [if_pos (show (tuL L F wh aw cw an cn).kd = 2 from h2), if_pos h2]
    exact ou_turn hF hb _ _
  · rw [if_neg (show ¬ (tuL L F wh aw cw an cn).kd = 2 from h2), if_neg h2]
    by_cases h1 : L.kd = 1
    · rw [if_pos (show (tuL L F wh aw cw an cn).kd = 1 from h1), if_pos h1]
      exact ou_turn hF hb _ _
    · rw [if_neg (show ¬ (tuL L F wh aw cw an cn).kd = 1 from h1), if_neg h1]
      rfl
/-- Networks whose layers make the same of the same. -/
theorem val_same {N M : Nt} {x : Nat → Int} (hsp : ∀ i, i ≤ N.ml → sp M i = sp N i) (hfan : ∀ i, i < N.ml → fanN M i = fanN N i) (hop : ∀ i, i < N.ml → ∀ z j, opN (M.lf i) (sp N i).h.toNat (sp N i).v.toNat (cN N i) (fanN N i) (sp N (i + 1)).v.toNat z j = opN (N.lf i) (sp N i).h.toNat (sp N i).v.toNat (cN N i) (fanN N i) (sp N (i + 1)).v.toNat z j) : ∀ i, i ≤ N.ml → valN M x i = valN N x i := by
  intro i
  induction i with
  | zero => intro _; rfl
  | succ i ih =>
    intro hi
    rw [valN, valN, ih (by omega), hsp i (by omega), hsp (i + 1) hi, hfan i (by omega), show cN M i = cN N i by unfold cN; rw [hsp i (by omega)]]
    funext j
    exact hop i (by omega) _ j
end Go.Proofs.YtlgjoepeibodkaaGreat.Nn
/- PLAINTURNED: the network with outputs turned, and its trace. -/
namespace Go.Proofs.YtlgjoepeibodkaaGreat.Nn
open Go.RowKit

theorem tu_sp (N : Nt) (i0 F : Nat) (wh : Nat → Bool) (aw an ua : Option Addr) (cw cn uc : Nat) : ∀ i, sp (wiN N i0 (tuL (N.lf i0) F wh aw cw an cn) ua uc) i = sp N i
  | 0 => rfl
  | i + 1 => by
    have ih := tu_sp N i0 F wh aw an ua cw cn uc i
    show (⟨oH (sn N.lf i0 (tuL (N.lf i0) F wh aw cw an cn) i) _ _ _, oV (sn N.lf i0 (tuL (N.lf i0) F wh aw cw an cn) i) _ _ _, oC (sn N.lf i0 (tuL (N.lf i0) F wh aw cw an cn) i) _ _ _, _ + wc (sn N.lf i0 (tuL (N.lf i0) F wh aw cw an cn) i) _ _ _, false, _⟩ : Sp) = _
    rw [ih]
    unfold sn
    by_cases h : i = i0
    · subst h
      rw [if_pos rfl]
      rfl
    · rw [if_neg h]
      rfl
theorem tu_fan (N : Nt) (i0 F : Nat) (wh : Nat → Bool) (aw an ua : Option Addr) (cw cn uc i : Nat) : fanN (wiN N i0 (tuL (N.lf i0) F wh aw cw an cn) ua uc) i = fanN N i := by
  unfold fanN
  rw [tu_sp]
  show (fan (sn N.lf i0 (tuL (N.lf i0) F wh aw cw an cn) i) _ _ _).toNat = _
  unfold sn
  by_cases h : i = i0
  · subst h
    rw [if_pos rfl]
    rfl
  · rw [if_neg h]
theorem tu_ok {N : Nt} (hz : chE N = 0) (i0 F : Nat) (wh : Nat → Bool) (aw an ua : Option Addr) (cw cn uc : Nat) : chE (wiN N i0 (tuL (N.lf i0) F wh aw cw an cn) ua uc) = 0 := by
  obtain ⟨hw0, hf⟩ := fl_all hz
  refine (ch_ok (show whE (wiN N i0 (tuL (N.lf i0) F wh aw cw an cn) ua uc) = 0 from hw0) fun j hj => ?_).1
  have hj : j < N.ml := hj
  have h : faE (N.lf j) (sp N j) = 0 := hf j hj
  unfold fl
  rw [tu_sp]
  show faE (sn N.lf i0 (tuL (N.lf i0) F wh aw cw an cn) j) (sp N j) = 0
  unfold sn
  by_cases h0 : j = i0
  · subst h0
    rw [if_pos rfl]
    exact fa_turn h
  · rw [if_neg h0]
    exact h
/-- What a layer with norms is. -/
theorem nm_layer {N : Nt} (hz : chE N = 0) {i : Nat} (hi : i < N.ml) (hn : 0 < (N.lf i).mn) : (N.lf i).mb = 0 ∧ ((N.lf i).mn : Int) = (N.lf i).k ∧ (1 ≤ (N.lf i).k ∧ (N.lf i).k ≤ 4096) ∧ 1 ≤ fanN N i ∧ (N.lf i).mw = (N.lf i).k.toNat * fanN N i ∧ (N.lf i).mw ≤ 16777216 ∧ (∀ j, j < (N.lf i).mw → -1 ≤ (N.lf i).ws j ∧ (N.lf i).ws j ≤ 1) ∧ ∀ j, j < (N.lf i).mn → nno (N.lf i) j = 0 := by
  have h0 : faE (N.lf i) (sp N i) = 0 := (fl_all hz).2 i hi
  have hs := sp_all hz i (by omega)
  have hk : ¬ (N.lf i).kd = 3 := fun h3 => by
    unfold faE at h0
    rw [if_neg (by omega), if_neg (by omega), if_pos h3] at h0
    have h := frF_z h0
    have h4 : owE (N.lf i) = 0 := h 2 (by decide)
    unfold owE at h4
    have := (zero_else (by decide) h4).1
    omega
  obtain ⟨hws, hend⟩ := lay_ws h0 hk
  obtain ⟨-, -, K, F, eK, eF, k1, k2, hmw, f1, hKF, -, -⟩ := lay_w hs h0 hk
  have hfan : fanN N i = F := by unfold fanN; rw [eF]; rfl
  have hnn : nmE (N.lf i) = 0 := by
    unfold faE at h0
    by_cases h1 : (N.lf i).kd = 1
    · rw [if_pos h1] at h0
      exact frF_z h0 8 (by decide)
    · rw [if_neg h1] at h0
      by_cases h2 : (N.lf i).kd = 2
      · rw [if_pos h2] at h0
        have h5 : enE (N.lf i) (sp N i) = 0 := frF_z h0 5 (by decide)
        unfold enE at h5
        by_cases hl : (sp N i).la = true
        · rw [if_pos hl] at h5
          have := zero_else (by decide) h5
          omega
        · rw [if_neg hl] at h5
          exact h5
      · rw [if_neg h2, if_neg hk] at h0
        cases h0
  unfold nmE at hnn
  have hnn := zero_else (by decide) hnn
  rw [hfan]
  exact ⟨hnn.1.2, hnn.1.1, ⟨by omega, by omega⟩, f1, by rw [eK]; exact hmw, by rw [hmw]; exact hKF, hws, hnn.2⟩
theorem tu_to (N : Nt) (i0 F : Nat) (wh : Nat → Bool) (aw an ua : Option Addr) (cw cn uc : Nat) : toN (wiN N i0 (tuL (N.lf i0) F wh aw cw an cn) ua uc) = toN N := by
  unfold toN
  simp only [tu_sp]
/-- The trace of the network with outputs turned. -/
theorem tu_trace {N : Nt} (hz : chE N = 0) (hcw : ∀ j, j < N.ml → (N.lf j).mw ≤ (N.lf j).cw) (hwo : woV N N.ml ≤ 4194304) {i0 F : Nat} (hi : i0 < N.ml) (hn : 0 < (N.lf i0).mn) (hF : F = fanN N i0) {wh : Nat → Bool} {aw an ua : Option Addr} {cw cn uc : Nat} (hc : (N.lf i0).mw ≤ cw) {m : Nat} (hsz : (m : Int) = N.h * N.v * N.c) (ao : Option Addr) (cap : Nat) (f : Nat → Int) (W : World) (hN : NtW W (wiN N i0 (tuL (N.lf i0) F wh aw cw an cn) ua uc)) (hx : RB W ao m f) :
    Calls Tryz.prog 8 #[ntv (wiN N i0 (tuL (N.lf i0) F wh aw cw an cn) ua uc), .slice ao m cap] W fun e w' => ∃ g c, e = .returned (.tuple #[.slice (some ⟨g, 0, none⟩) N.ml c, .int .i64 0]) ∧ StN w' N f g ∧ Below W.heap.size W w' := by
  have hm := nm_layer hz hi hn
  refine (bo_trace (tu_ok hz i0 F wh aw an ua cw cn uc) (fun j hj => ?_) (by rw [tu_to]; exact to_fits hz hwo) hsz ao cap f W hN hx).mono fun e w' h => ?_
  · have hj : j < N.ml := hj
    show (sn N.lf i0 (tuL (N.lf i0) F wh aw cw an cn) j).mw ≤ (sn N.lf i0 (tuL (N.lf i0) F wh aw cw an cn) j).cw
    unfold sn
    by_cases h0 : j = i0
    · rw [if_pos h0]
      exact hc
    · rw [if_neg h0]
      exact hcw j hj
  · obtain ⟨g, c, rfl, hS, hb⟩ := h
    refine ⟨g, c, rfl, ?_, hb⟩
    refine StR.congr hS fun j hj => ?_
    have hj : j < N.ml := hj
    have hv := val_same (N := N) (M := wiN N i0 (tuL (N.lf i0) F wh aw cw an cn) ua uc) (x := fun i => s8 (f i)) (fun i _ => tu_sp N i0 F wh aw an ua cw cn uc i) (fun i _ => tu_fan N i0 F wh aw an ua cw cn uc i) (fun i _ z q => by
      show opN (sn N.lf i0 (tuL (N.lf i0) F wh aw cw an cn) i) _ _ _ _ _ z q = _
      unfold sn
      by_cases h0 : i = i0
      · subst h0
        rw [if_pos rfl, ← hF]
        exact op_turn (by rw [hF]; exact hm.2.2.2.1) hm.1 z q
      · rw [if_neg h0]) (j + 1) hj
    have hs := tu_sp N i0 F wh aw an ua cw cn uc (j + 1)
    exact ⟨by rw [hs], by rw [hs], by rw [hs], by unfold szN cN; rw [hs], fun q _ => by rw [hv]⟩
end Go.Proofs.YtlgjoepeibodkaaGreat.Nn
/- PLAINTURNED, PLAINORDER: lists of a layer, copied and written; a layer with norms. -/
namespace Go.Proofs.YtlgjoepeibodkaaGreat.Nn
open Go.RowKit

/-- The cells of a list, by their places. -/
def clT (n : Nat) (f : Nat → Value) : List Value := (List.range n).map f
theorem clT_len (n : Nat) (f : Nat → Value) : (clT n f).length = n := by simp [clT]
theorem clT_get {n : Nat} {f : Nat → Value} {j : Nat} {u : Value} (h : (clT n f)[j]? = some u) : j < n ∧ u = f j := by
  unfold clT at h
  rw [List.getElem?_map] at h
  by_cases hj : j < n
  · rw [List.getElem?_range hj] at h
    simp at h
    exact ⟨hj, h.symm⟩
  · rw [List.getElem?_eq_none (by simpa using hj)] at h
    cases h
theorem clT_at {n : Nat} {f : Nat → Value} {j : Nat} (h : j < n) : (clT n f)[j]? = some (f j) := by
  unfold clT
  rw [List.getElem?_map, List.getElem?_range h]; rfl
theorem clT_mem {n : Nat} {f : Nat → Value} {u : Value} (h : u ∈ clT n f) : ∃ j, u = f j := by
  obtain ⟨k, _, rfl⟩ := List.mem_map.1 h
  exact ⟨k, rfl⟩
theorem clT_congr {n : Nat} {f g : Nat → Value} (h : ∀ j, j < n → f j = g j) : clT n f = clT n g := by
  unfold clT
  exact List.map_congr_left fun j hj => h j (List.mem_range.1 hj)
theorem clT_set {n p : Nat} {f : Nat → Value} {v : Value} (hp : p < n) : (clT n f).set p v = clT n fun j => if j = p then v else f j := by
  apply List.ext_getElem?
  intro k
  rw [List.getElem?_set]
  by_cases hk : p = k
  · subst hk
    rw [if_pos rfl, if_pos (by rw [clT_len]; exact hp), clT_at hp, if_pos rfl]
  · rw [if_neg hk]
    by_cases hkn : k < n
    · rw [clT_at hkn, clT_at hkn, if_neg (by omega)]
    · rw [List.getElem?_eq_none (by rw [clT_len]; omega), List.getElem?_eq_none (by rw [clT_len]; omega)]
theorem clT_snoc (n : Nat) (f : Nat → Value) : clT (n + 1) f = clT n f ++ [f n] := by simp [clT, List.range_succ]
def nmT (L : Ly) (x : Nat) : Value := .int .i64 (L.ns (x / 8) (x % 8))
/-- A layer's weights, or norms, copied behind nothing. -/
theorem app_clWT {ops : Array Oper} {rest : List Oper} {o : Oper} {a : Act} {Q : Exit → Act → World → Prop} {w : World} (hgd : o.guard = none) (s x : Operand)
    (ho : o.op = .call { callee := .builtin .append, args := #[s, x], argTypes := #[34, 34] }) (L : Ly) (hs : a.eval s = .slice none 0 0) (hx : a.eval x = .slice L.aw L.mw L.cw) (hW : Wts w L) (hm : 1 ≤ L.mw ∧ L.mw ≤ 16777216)
    (h : ∀ v' w', w'.ownsRow w.heap.size 39 1 v' L.mw (clT L.mw fun j => .int .i8 (L.ws j)) → Below w.heap.size w w' → wpList Tryz.prog ops Q rest (a.put o.dst v') w') : wpList Tryz.prog ops Q (o :: rest) a w := by
  obtain ⟨i0, hi, hz0, hz1, hz2⟩ := info_parts info_i8P
  unfold Wts at hW
  obtain ⟨g, o0, e, -⟩ := hW 0 (by omega)
  rw [e] at hx
  refine wpList_append_own w hgd s x _ ho w.heap.size 39 i0 _ 1 1 und_i8P hi hz0 hz1 hz2 rfl (by decide) (.slice none 0 0) 0 [] hs (World.ownsRow_nil _ _ _ _) ⟨g, o0, none⟩ L.mw L.cw (clT L.mw fun j => .int .i8 (L.ws j)) hx (by rw [clT_len]; omega) ?_ (fun u hu => by obtain ⟨j, rfl⟩ := clT_mem hu; rfl) (by unfold maxLen; omega) (by omega) (Nat.le_refl _) ?_
  · intro j u hu
    obtain ⟨hj, rfl⟩ := clT_get hu
    obtain ⟨g2, o2, e2, c⟩ := hW j hj
    rw [e] at e2
    cases e2
    rw [show (⟨g, o0, none⟩ : Addr).add j = ⟨g, o0 + j, none⟩ by simp [Addr.add]]
    exact c
  · intro v' w' k1 k2 _
    rw [Nat.zero_add, List.nil_append] at k1
    exact h v' w' k1 (gr_bel k2 (Below.refl _ _) (fun q hq => by cases hq))
theorem app_clNT {ops : Array Oper} {rest : List Oper} {o : Oper} {a : Act} {Q : Exit → Act → World → Prop} {w : World} (hgd : o.guard = none) (s x : Operand)
    (ho : o.op = .call { callee := .builtin .append, args := #[s, x], argTypes := #[35, 35] }) (L : Ly) (hs : a.eval s = .slice none 0 0) (hx : a.eval x = .slice L.an L.mn L.cn) (hW : Nms w L) (hm : 1 ≤ L.mn ∧ L.mn ≤ 4096)
    (h : ∀ v' w', w'.ownsRow w.heap.size 43 8 v' L.mn (clT (L.mn * 8) (nmT L)) → Below w.heap.size w w' → wpList Tryz.prog ops Q rest (a.put o.dst v') w') : wpList Tryz.prog ops Q (o :: rest) a w := by
  obtain ⟨i0, hi, hz0, hz1, hz2⟩ := info_parts info_nrD
  unfold Nms at hW
  obtain ⟨g, o0, e, -⟩ := hW 0 (by omega)
  rw [e] at hx
  refine wpList_append_own w hgd s x _ ho w.heap.size 43 i0 _ 8 64 und_nrD hi hz0 hz1 hz2 rfl (by decide) (.slice none 0 0) 0 [] hs (World.ownsRow_nil _ _ _ _) ⟨g, o0, none⟩ L.mn L.cn (clT (L.mn * 8) (nmT L)) hx (by rw [clT_len]) ?_ (fun u hu => by obtain ⟨j, rfl⟩ := clT_mem hu; rfl) (by unfold maxLen; omega) (by omega) (Nat.le_refl _) ?_
  · intro j u hu
    obtain ⟨hj, rfl⟩ := clT_get hu
    obtain ⟨g2, o2, e2, c0, c1, c2, c3, c4, c5, c6, c7⟩ := hW (j / 8) (by omega)
    rw [e] at e2
    cases e2
    rw [show (⟨g, o0, none⟩ : Addr).add j = ⟨g, o0 + j, none⟩ by simp [Addr.add], show o0 + j = o0 + j / 8 * 8 + j % 8 by omega]
    unfold nmT
    have hc : j % 8 < 8 := by omega
    generalize j / 8 = q at c0 c1 c2 c3 c4 c5 c6 c7 ⊢
    generalize j % 8 = c at hc ⊢
    rcases (show c = 0 ∨ c = 1 ∨ c = 2 ∨ c = 3 ∨ c = 4 ∨ c = 5 ∨ c = 6 ∨ c = 7 by omega) with rfl | rfl | rfl | rfl | rfl | rfl | rfl | rfl
    · exact c0
    · exact c1
    · exact c2
    · exact c3
    · exact c4
    · exact c5
    · exact c6
    · exact c7
  · intro v' w' k1 k2 _
    rw [Nat.zero_add, List.nil_append] at k1
    exact h v' w' k1 (gr_bel k2 (Below.refl _ _) (fun q hq => by cases hq))
theorem ownNeT {W : World} {b1 b2 e1 e2 s1 s2 n1 n2 q : Nat} {v1 v2 : Value} {x1 x2 : List Value} (h1 : W.ownsRow b1 e1 s1 v1 n1 x1) (h2 : W.ownsRow b2 e2 s2 v2 n2 x2) (hne : e1 ≠ e2) (hq : v2.ownBlock = some q) : ∀ p, v1.ownBlock = some p → p ≠ q := fun p hp e => by
  subst e
  rcases own_neD h1 h2 hne with h | h
  · rw [h] at hp; cases hp
  · exact h (hp.trans hq.symm)
theorem rowNeT {W : World} {g t k b2 e2 s2 n2 q : Nat} {F : Nat → Value} {v2 : Value} {x2 : List Value} (h : W.rowIs g t k F) (h2 : W.ownsRow b2 e2 s2 v2 n2 x2) (hne : e2 ≠ t) (hq : v2.ownBlock = some q) : g ≠ q := fun e => (own_ne_row h2 h hne q hq) e.symm
/-- A layer with its weights and norms elsewhere. -/
abbrev lsL (L : Ly) (aw : Option Addr) (cw : Nat) (an : Option Addr) (cn : Nat) : Ly := ⟨L.kd, L.wt, L.k, L.r, L.s, L.sy, L.sx, L.t, L.l, L.b, L.q, L.bd, aw, L.mw, cw, an, L.mn, cn, L.ab, L.mb, L.cb, L.ws, L.ns, L.bs⟩
/-- The layer that is written: its box, its weights, its norms. -/
def TuM (W : World) (base g : Nat) (L : Ly) (aw : Option Addr) (cw : Nat) (an : Option Addr) (cn : Nat) (ws nf : Nat → Int) : Prop := W.rowIs g 38 15 (lyf (lsL L aw cw an cn)) ∧ W.ownsRow base 39 1 (.slice aw L.mw cw) L.mw (clT L.mw fun j => .int .i8 (ws j)) ∧ W.ownsRow base 43 8 (.slice an L.mn cn) L.mn (clT (L.mn * 8) fun j => .int .i64 (nf j))
theorem TuM.keep {W X : World} {base g : Nat} {L : Ly} {aw an : Option Addr} {cw cn : Nat} {ws nf : Nat → Int} (h : TuM W base g L aw cw an cn ws nf) (hb : Below W.heap.size W X) : TuM X base g L aw cw an cn ws nf := ⟨World.rowIs.of_block h.1 (hb.block _ h.1.lt), own_bl h.2.1 hb, own_bl h.2.2 hb⟩
theorem TuM.wset {W : World} {base g p q : Nat} {L : Ly} {aw an : Option Addr} {cw cn : Nat} {ws nf : Nat → Int} (h : TuM W base g L aw cw an cn ws nf) (hq : aw = some ⟨q, 0, none⟩) (hp : p < L.mw) (y : Int) : TuM (W.setCell ⟨q, p, none⟩ (.int .i8 y)) base g L aw cw an cn (fun j => if j = p then y else ws j) nf := by
  obtain ⟨h1, h2, h3⟩ := h
  subst hq
  refine ⟨h1.setOther (by show g ≠ q; exact rowNeT h1 h2 (by decide) rfl) _, ?_, own_setNe h3 (ownNeT h3 h2 (by decide) rfl)⟩
  have := (h2.stored p (.int .i8 y)).1
  rw [clT_set hp] at this
  rw [show (clT L.mw fun j => Value.int .i8 (if j = p then y else ws j)) = clT L.mw fun j => if j = p then .int .i8 y else .int .i8 (ws j) from clT_congr fun j _ => by by_cases e : j = p <;> simp [e]]
  exact this
theorem TuM.nset {W : World} {base g p q : Nat} {L : Ly} {aw an : Option Addr} {cw cn : Nat} {ws nf : Nat → Int} (h : TuM W base g L aw cw an cn ws nf) (hq : an = some ⟨q, 0, none⟩) (hp : p < L.mn * 8) (y : Int) : TuM (W.setCell ⟨q, p, none⟩ (.int .i64 y)) base g L aw cw an cn ws (fun j => if j = p then y else nf j) := by
  obtain ⟨h1, h2, h3⟩ := h
  subst hq
  refine ⟨h1.setOther (by show g ≠ q; exact rowNeT h1 h3 (by decide) rfl) _, own_setNe h2 (ownNeT h2 h3 (by decide) rfl), ?_⟩
  have := (h3.stored p (.int .i64 y)).1
  rw [clT_set hp] at this
  rw [show (clT (L.mn * 8) fun j => Value.int .i64 (if j = p then y else nf j)) = clT (L.mn * 8) fun j => if j = p then .int .i64 y else .int .i64 (nf j) from clT_congr fun j _ => by by_cases e : j = p <;> simp [e]]
  exact this
theorem TuM.congr {W : World} {base g : Nat} {L : Ly} {aw an : Option Addr} {cw cn : Nat} {ws nf ws' nf' : Nat → Int} (h : TuM W base g L aw cw an cn ws nf) (h1 : ∀ j, j < L.mw → ws j = ws' j) (h2 : ∀ j, j < L.mn * 8 → nf j = nf' j) : TuM W base g L aw cw an cn ws' nf' := by
  refine ⟨h.1, ?_, ?_⟩
  · rw [← clT_congr (f := fun j => Value.int .i8 (ws j)) fun j hj => by rw [h1 j hj]]
    exact h.2.1
  · rw [← clT_congr (f := fun j => Value.int .i64 (nf j)) fun j hj => by rw [h2 j hj]]
    exact h.2.2
/-- The cells of what is written. -/
theorem TuM.wc {W : World} {base g : Nat} {L : Ly} {aw an : Option Addr} {cw cn : Nat} {ws nf : Nat → Int} (h : TuM W base g L aw cw an cn ws nf) (hm : 1 ≤ L.mw) : ∃ q, aw = some ⟨q, 0, none⟩ ∧ base ≤ q ∧ L.mw ≤ cw ∧ (∀ p, p < L.mw → W.cell? ⟨q, p, none⟩ = some (.int .i8 (ws p))) ∧ ∀ p, W.frozen? ⟨q, p, none⟩ = false := by
  obtain ⟨q, e, h1, h2, -, hc⟩ := own_cellsS h.2.1 hm
  subst e
  refine ⟨q, rfl, h2, h1, fun p hp => ?_, fun p => h.2.1.frozenAt p⟩
  rw [hc p (by omega), clT_at hp]
theorem TuM.nc {W : World} {base g : Nat} {L : Ly} {aw an : Option Addr} {cw cn : Nat} {ws nf : Nat → Int} (h : TuM W base g L aw cw an cn ws nf) (hm : 1 ≤ L.mn) : ∃ q, an = some ⟨q, 0, none⟩ ∧ base ≤ q ∧ (∀ p, p < L.mn * 8 → W.cell? ⟨q, p, none⟩ = some (.int .i64 (nf p))) ∧ ∀ p, W.frozen? ⟨q, p, none⟩ = false := by
  obtain ⟨q, e, -, h2, -, hc⟩ := own_cellsS h.2.2 hm
  subst e
  refine ⟨q, rfl, h2, fun p hp => ?_, fun p => h.2.2.frozenAt p⟩
  rw [hc p hp, clT_at hp]
/-- The list of lists: the layer written is a layer. -/
theorem TuM.lst {W : World} {base g : Nat} {L T : Ly} {aw an : Option Addr} {cw cn : Nat} {ws nf : Nat → Int} (h : TuM W base g L aw cw an cn ws nf) (hm : 1 ≤ L.mw ∧ L.mw ≤ 16777216) (hn : 1 ≤ L.mn ∧ L.mn ≤ 4096) (hb : Bss W L) (hbm : L.mb ≤ 9223372036854775807)
    (e1 : T.aw = aw ∧ T.mw = L.mw ∧ T.an = an ∧ T.mn = L.mn) (e2 : T.ab = L.ab ∧ T.mb = L.mb ∧ T.bs = L.bs) (h1 : ∀ j, j < L.mw → T.ws j = ws j) (h2 : ∀ j, j < L.mn → ∀ c, c < 8 → T.ns j c = nf (j * 8 + c)) : Lst W T := by
  obtain ⟨a1, a2, a3, a4⟩ := e1
  obtain ⟨b1, b2, b3⟩ := e2
  obtain ⟨q, eq, -, -, hw, -⟩ := h.wc hm.1
  obtain ⟨r, er, -, hr, -⟩ := h.nc hn.1
  refine ⟨fun j hj => ?_, fun j hj => ?_, fun j hj => ?_, by omega, by omega, by omega⟩
  · refine ⟨q, 0, by rw [a1, eq], ?_⟩
    rw [Nat.zero_add, hw j (by omega), h1 j (by omega)]
  · have hj : j < L.mn := by omega
    have key : ∀ c, c < 8 → W.cell? ⟨r, 0 + j * 8 + c, none⟩ = some (.int .i64 (T.ns j c)) := fun c hc => by rw [Nat.zero_add, hr _ (by omega), h2 j hj c hc]
    exact ⟨r, 0, by rw [a3, er], key 0 (by decide), key 1 (by decide), key 2 (by decide), key 3 (by decide), key 4 (by decide), key 5 (by decide), key 6 (by decide), key 7 (by decide)⟩
  · rw [b1, b3]
    exact hb j (by omega)
end Go.Proofs.YtlgjoepeibodkaaGreat.Nn
/- PLAINTURNED, PLAINORDER: inner: a layer with norms. -/
namespace Go.Proofs.YtlgjoepeibodkaaGreat.Nn
open Go.RowKit

theorem info_itT : (Tryz.prog.info? 3).map (fun i => (i.zero, i.size, i.bytes)) = some (some (.int .i64 0), 1, 8) := by kernel_rfl
theorem und_itT : Tryz.prog.underlying 51 = some (.slice 3) := by kernel_rfl
def itL (l : List Int) : List Value := l.map (Value.int .i64)
theorem itL_snoc (l : List Int) (x : Int) : itL (l ++ [x]) = itL l ++ [.int .i64 x] := by simp [itL]
theorem app_itT {ops : Array Oper} {rest : List Oper} {o : Oper} {a : Act} {Q : Exit → Act → World → Prop} {w : World} (hgd : o.guard = none) (s x : Operand)
    (ho : o.op = .call { callee := .builtin .append, args := #[s, x], argTypes := #[51, 51] }) (base : Nat) (v : Value) (l : List Int) (n : Nat) (hs : a.eval s = v) (hown : w.ownsRow base 3 1 v n (itL l))
    (g : Nat) (y : Int) (cb : Nat) (hx : a.eval x = .slice (some ⟨g, 0, none⟩) 1 cb) (hr : w.cell? ⟨g, 0, none⟩ = some (.int .i64 y)) (hM : n ≤ 1000000000) (hb : base ≤ w.heap.size)
    (h : ∀ v' w', w'.ownsRow base 3 1 v' (n + 1) (itL (l ++ [y])) → w.grownBy w' v.ownBlock → wpList Tryz.prog ops Q rest (a.put o.dst v') w') : wpList Tryz.prog ops Q (o :: rest) a w := by
  obtain ⟨i0, hi, hz0, hz1, hz2⟩ := info_parts info_itT
  refine wpList_append_own_at w hgd s x _ ho base 3 i0 (.int .i64 0) 1 8 und_itT hi hz0 hz1 hz2 rfl (by decide) v n (itL l) hs hown ⟨g, 0, none⟩ 1 cb [.int .i64 y] hx rfl
    (fun j u hu => ?_) (fun u hu => by simp at hu; subst hu; rfl) (by unfold maxLen; omega) (by omega) hb ?_
  · rcases j with _ | j
    · simp at hu; subst hu; exact hr
    · simp at hu
  · intro v' w' h1 h2 _ h3
    exact h v' w' (by rw [itL_snoc]; exact h1) h2
theorem tmod_in (x : Int) (k : Nat) (hk : 1 ≤ k) : -(k : Int) < x.tmod k ∧ x.tmod k < k := by
  by_cases h : 0 ≤ x
  · rw [Int.tmod_eq_emod_of_nonneg h]
    have h1 := Int.emod_nonneg x (show (k : Int) ≠ 0 by omega)
    have h2 := Int.emod_lt_of_pos x (show (0 : Int) < k by omega)
    omega
  · have e : x.tmod k = -((-x).tmod k) := by rw [Int.neg_tmod]; omega
    rw [e, Int.tmod_eq_emod_of_nonneg (show 0 ≤ -x by omega)]
    have h1 := Int.emod_nonneg (-x) (show (k : Int) ≠ 0 by omega)
    have h2 := Int.emod_lt_of_pos (-x) (show (0 : Int) < k by omega)
    omega
/-- What is in the list of layers with norms. -/
abbrev InP (N : Nt) (l : List Int) (k : Nat) : Prop := l.length = k ∧ ∀ x ∈ l, ∃ q : Nat, x = (q : Int) ∧ q < N.ml ∧ 0 < (N.lf q).mn
theorem InP.at {N : Nt} {l : List Int} {k : Nat} (h : InP N l k) {p : Nat} (hp : p < k) : ∃ q : Nat, (itL l)[p]? = some (.int .i64 (q : Int)) ∧ q < N.ml ∧ 0 < (N.lf q).mn := by
  have hl : p < l.length := by rw [h.1]; exact hp
  obtain ⟨q, e, h1, h2⟩ := h.2 l[p] (List.getElem_mem hl)
  refine ⟨q, ?_, h1, h2⟩
  unfold itL
  rw [List.getElem?_map, List.getElem?_eq_getElem hl, e]
  rfl
set_option maxHeartbeats 6400000 in
set_option maxRecDepth 100000 in
theorem inner_any (N : Nt) (at0 : Int) (hm : N.ml ≤ 64) (w : World) (hN : NtW w N) :
    Calls Tryz.prog 7 #[ntv N, .int .i64 at0] w fun e w' => ∃ r : Int, e = .returned (.int .i64 r) ∧ (r = -1 ∨ ∃ i : Nat, r = (i : Int) ∧ i < N.ml ∧ 0 < (N.lf i).mn) ∧ Below w.heap.size w w' := by
  have HN := hid1 hN
  clear hN
  obtain ⟨b, hb0⟩ : ∃ b, w.heap.size = b := ⟨_, rfl⟩
  go_enter Tryz.func7, Tryz.ntmps7
  go_upto_region 1 with fail
  refine gen_world (fun X => X.rowIs b 26 5 (netF N.nm N.h N.v N.c (.slice N.al N.ml N.cl)) ∧ Below w.heap.size w X) ⟨by rw [← hb0]; exact net_newF _ _ _ _ _ _ _, by repeat (first | (with_reducible exact Below.refl _ _) | (with_reducible refine bl_alloc ?_ _) | (with_reducible refine Below.drew ?_))⟩ ?_
  rintro X0 ⟨R0, B0⟩
  have HR0 := hid1 R0
  have HB0 := hid1 B0
  have HBW := hid1 hb0
  clear R0 B0 hb0
  go_wp2_with fail
  go_loopw [5, 6] (fun s5 s6 wr => ∃ (i k : Nat) (la : Option Addr) (lc : Nat) (l : List Int), i ≤ N.ml ∧ k ≤ i ∧ s6 = .int .i64 i ∧ s5 = .slice la k lc ∧ Hid (Below w.heap.size w wr) ∧ Hid (wr.rowIs b 26 5 (netF N.nm N.h N.v N.c (.slice N.al N.ml N.cl))) ∧ Hid (wr.ownsRow (b + 1) 3 1 (.slice la k lc) k (itL l)) ∧ Hid (InP N l k)) (fun _ s6 _ => N.ml - (intOf s6).toNat)
  case atStart => exact ⟨0, 0, none, 0, [], Nat.zero_le _, Nat.le_refl _, rfl, rfl, HB0, HR0, hid1 (World.ownsRow_nil _ _ _ _), hid1 ⟨rfl, fun x hx => by cases hx⟩⟩
  case round =>
    clear HB0 HR0
    obtain ⟨i, k, la, lc, l, hi, hk, rfl, rfl, HB, HR, HO, HP⟩ := hrel
    have n4 : wr.cell? ⟨b, 4, none⟩ = some (.slice N.al N.ml N.cl) := HR.out.cell (i := 4) (by decide)
    have i0 : (0 : Int) ≤ (i : Int) := by omega
    by_cases hlt : i < N.ml
    · have ilt : (i : Int) < (N.ml : Int) := by omega
      obtain ⟨g, o, e, LC, -⟩ := (HN.out.keep HB.out).1 i hlt
      obtain ⟨-, -, -, -, -, -, -, -, -, -, -, -, -, c13, -⟩ := LC
      rw [e] at n4
      clear e
      by_cases hn : 0 < (N.lf i).mn
      · have hni : (0 : Int) < ((N.lf i).mn : Int) := by omega
        go_wp2_with (at_builtin; refine app_itT rfl _ _ rfl (b + 1) (.slice la k lc) l k (by go_simp) (own_bl HO.out (bl_alloc (Below.refl _ _) _)) wr.heap.size (i : Int) 1 (by go_simp) (by simp [go_sem]) (by omega) (by have := HR.out.lt; simp; omega) ?_; intro v3 y3 own3 gr3; obtain ⟨a3, c3, rfl⟩ := own_isP own3; have H3 := hid1 own3; have B3 := hid1 (gr_bel gr3 (bl_alloc HB.out _) (fun q hq => by have := (HO.out.lt q hq).1; have := HBW.out; omega)); have R3 := hid1 (World.rowIs.of_block (HR.out.alloc _) (gr3.block b (by have := HR.out.lt; simp; omega) (fun e => by first | (have := (HO.out.lt b e).1; omega) | (have := (HO.out.lt b e.symm).1; omega)))); clear own3 gr3)
        exact ⟨⟨i + 1, k + 1, a3, c3, l ++ [(i : Int)], by omega, by omega, by go_num, rfl, B3, R3, H3, hid1 ⟨by simp [HP.out.1], fun x hx => by
          rcases List.mem_append.1 hx with h | h
          · exact HP.out.2 x h
          · simp at h
            exact ⟨i, h, hlt, hn⟩⟩⟩, by simp [intOf]; omega⟩
      · have hni : ¬ (0 : Int) < ((N.lf i).mn : Int) := by omega
        go_wp2_with fail
        exact ⟨⟨i + 1, k, la, lc, l, by omega, by omega, by go_num, rfl, HB, HR, HO, HP⟩, by simp [intOf]; omega⟩
    · have ilt : ¬ (i : Int) < (N.ml : Int) := by omega
      by_cases hk0 : k = 0
      · subst hk0
        go_wp2_with fail
        go_ret
        exact ⟨_, rfl, .inl rfl, HB.out⟩
      · have hk1 : ¬ (k : Int) = 0 := by omega
        obtain ⟨g, e, -, -, -, hc⟩ := own_cellsS HO.out (by omega)
        subst e
        obtain ⟨t, ht⟩ : ∃ t, at0.tmod (k : Int) = t := ⟨_, rfl⟩
        have hb := tmod_in at0 k (by omega)
        rw [ht] at hb
        have wt : IntKind.i64.wrap t = t := by rw [IntKind.wrap_i64]; omega
        by_cases ht0 : t < 0
        · obtain ⟨p, hp⟩ := Int.eq_ofNat_of_zero_le (show 0 ≤ t + k by omega)
          have hpk : p < k := by omega
          obtain ⟨q, e, hq1, hq2⟩ := HP.out.at hpk
          have cc : wr.cell? ⟨g, p, none⟩ = some (.int .i64 (q : Int)) := by rw [hc p (by omega), e]
          have wp' : IntKind.i64.wrap (t + k) = (p : Int) := by rw [hp, IntKind.wrap_i64]; omega
          have ip0 : (0 : Int) ≤ (p : Int) := by omega
          have ipk : (p : Int) < (k : Int) := by omega
          clear hc hp hb HO e
          go_wp2_with fail
          go_ret
          exact ⟨_, rfl, .inr ⟨q, rfl, hq1, hq2⟩, HB.out⟩
        · obtain ⟨p, rfl⟩ := Int.eq_ofNat_of_zero_le (show 0 ≤ t by omega)
          have hpk : p < k := by omega
          obtain ⟨q, e, hq1, hq2⟩ := HP.out.at hpk
          have cc : wr.cell? ⟨g, p, none⟩ = some (.int .i64 (q : Int)) := by rw [hc p (by omega), e]
          have ip0 : (0 : Int) ≤ (p : Int) := by omega
          have ipk : (p : Int) < (k : Int) := by omega
          clear hc hb HO e
          go_wp2_with fail
          go_ret
          exact ⟨_, rfl, .inr ⟨q, rfl, hq1, hq2⟩, HB.out⟩
end Go.Proofs.YtlgjoepeibodkaaGreat.Nn
/- NETWORKS THAT ARE MADE: the walk's pieces: a window and a layer begun. -/
namespace Go.Proofs.YtlgjoepeibodkaaGreat.Nn
open Go.RowKit

/-- The code from region n on, within its sequence; a block by its number. -/
def isReg (n : Nat) : Code → Bool
  | .region id _ _ => id == n
  | _ => false
def isBlk (n : Nat) : Code → Bool
  | .block id _ => id == n
  | _ => false
def fromP (p : Code → Bool) : Code → Option Code
  | .region id ops b => if p (.region id ops b) then some (.region id ops b) else none
  | .seq a b => if p a then some (.seq a b) else match fromP p a with
    | some c => some c
    | none => fromP p b
  | .block _ c => fromP p c
  | .scope c => fromP p c
  | .loop c => fromP p c
  | .cond _ a b => match fromP p a with
    | some c => some c
    | none => fromP p b
  | _ => none
theorem kgo {P : Program} {c : Code} {Q : Exit → Act → World → Prop} {K : Act → World → Prop} {a : Act} {w : World} (h : ∀ a w, c.wp P Q a w → K a w) (h2 : c.wp P Q a w) : K a w := h _ _ h2
def blockOf (n : Nat) : Code → Option Code
  | .seq a b => match blockOf n a with
    | some c => some c
    | none => blockOf n b
  | .block id c => if id = n then some (.block id c) else blockOf n c
  | .scope c => blockOf n c
  | .loop c => blockOf n c
  | .cond _ a b => match blockOf n a with
    | some c => some c
    | none => blockOf n b
  | _ => none
theorem meet_ofD {J K : Act → World → Prop} {Q : Exit → Act → World → Prop} {a : Act} {w : World} (hK : ∀ a' w', Met J a' w' → K a' w') (h : Met J a w) : Exit.then K Q Exit.normal a w := hK _ _ h
theorem kpD8 {V Y : World} {b : Nat} {h v : Int} (h0 : V.cell? ⟨b, 0, none⟩ = some (.int .i64 h)) (h1 : V.cell? ⟨b, 1, none⟩ = some (.int .i64 v)) (hb : Below V.heap.size V Y) : Y.cell? ⟨b, 0, none⟩ = some (.int .i64 h) ∧ Y.cell? ⟨b, 1, none⟩ = some (.int .i64 v) := ⟨keepc hb h0, keepc hb h1⟩
theorem kpD9 {V Y : World} {b : Nat} {r s y x : Int} (h0 : V.cell? ⟨b, 0, none⟩ = some (.int .i64 r)) (h1 : V.cell? ⟨b, 1, none⟩ = some (.int .i64 s)) (h2 : V.cell? ⟨b, 2, none⟩ = some (.int .i64 y)) (h3 : V.cell? ⟨b, 3, none⟩ = some (.int .i64 x)) (h4 : V.cell? ⟨b, 4, none⟩ = some (.int .i64 0)) (h5 : V.cell? ⟨b, 5, none⟩ = some (.int .i64 0)) (h6 : V.cell? ⟨b, 6, none⟩ = some (.int .i64 0)) (h7 : V.cell? ⟨b, 7, none⟩ = some (.int .i64 0)) (hb : Below V.heap.size V Y) :
    Y.cell? ⟨b, 0, none⟩ = some (.int .i64 r) ∧ Y.cell? ⟨b, 1, none⟩ = some (.int .i64 s) ∧ Y.cell? ⟨b, 2, none⟩ = some (.int .i64 y) ∧ Y.cell? ⟨b, 3, none⟩ = some (.int .i64 x) ∧ Y.cell? ⟨b, 4, none⟩ = some (.int .i64 0) ∧ Y.cell? ⟨b, 5, none⟩ = some (.int .i64 0) ∧ Y.cell? ⟨b, 6, none⟩ = some (.int .i64 0) ∧ Y.cell? ⟨b, 7, none⟩ = some (.int .i64 0) := ⟨keepc hb h0, keepc hb h1, keepc hb h2, keepc hb h3, keepc hb h4, keepc hb h5, keepc hb h6, keepc hb h7⟩
attribute [local go_sem ↓] Go.wp_at_zero Go.wp_at_succ
attribute [local go_sem ↓] Go.wp_at_zero Go.wp_at_succ
end Go.Proofs.YtlgjoepeibodkaaGreat.Nn
/- PLAINTURNED: the loops that turn. -/
namespace Go.Proofs.YtlgjoepeibodkaaGreat.Nn
open Go.RowKit

/-- What has not turned: what is older, and what lies below. -/
def BlT (w W1 : World) (base : Nat) (X : World) : Prop := Below w.heap.size w X ∧ Below base W1 X
theorem BlT.set {w W1 X : World} {base q o : Nat} (h : BlT w W1 base X) (hw : w.heap.size ≤ base) (hq : base ≤ q) (u : Value) : BlT w W1 base (X.drew.setCell ⟨q, o, none⟩ u) := ⟨bl_set (Below.drew h.1) (by omega) u, (Below.drew h.2).setCell hq u⟩
/-- Outputs turned so far. -/
def whK (wh : Nat → Bool) (k q : Nat) : Bool := decide (q < k) && wh q
def tuF (wh : Nat → Bool) (ns : Nat → Nat → Int) (x : Nat) : Int := tuN ns wh (x / 8) (x % 8)
def RBo (W : World) (ao : Option Addr) (m : Nat) (wh : Nat → Bool) : Prop := ∀ k, k < m → ∃ g o, ao = some ⟨g, o, none⟩ ∧ W.cell? ⟨g, o + k, none⟩ = some (.bool (wh k))
theorem RBo.keep {W X : World} {ao : Option Addr} {m : Nat} {wh : Nat → Bool} (h : RBo W ao m wh) (hb : Below W.heap.size W X) : RBo X ao m wh := fun k hk => by
  obtain ⟨g, o, e, c⟩ := h k hk
  exact ⟨g, o, e, keepc hb c⟩
theorem whK_zero (wh : Nat → Bool) (q : Nat) : whK wh 0 q = false := by simp [whK]
theorem whK_ne {wh : Nat → Bool} {k q : Nat} (h : q ≠ k) : whK wh (k + 1) q = whK wh k q := by
  unfold whK
  rw [show decide (q < k + 1) = decide (q < k) from decide_eq_decide.2 (by omega)]
theorem whK_at (wh : Nat → Bool) (k : Nat) : whK wh (k + 1) k = wh k := by simp [whK]
theorem whK_off (wh : Nat → Bool) (k : Nat) : whK wh k k = false := by simp [whK]
theorem div_place {F k j : Nat} (hF : 1 ≤ F) : (k * F ≤ j ∧ j < k * F + F) ↔ j / F = k := by
  constructor
  · rintro ⟨h1, h2⟩
    exact Nat.div_eq_of_lt_le (by omega) (by rw [Nat.succ_mul]; exact h2)
  · intro h
    subst h
    exact ⟨Nat.div_mul_le_self j F, by have := Nat.lt_div_mul_add (a := j) (b := F) (by omega); omega⟩
/-- A whole output turned, or none. -/
theorem tuW_step {ws : Nat → Int} {F k : Nat} {wh : Nat → Bool} (hF : 1 ≤ F) (h : wh k = true) (j : Nat) : (if k * F ≤ j ∧ j < k * F + F then -tuW ws F (whK wh k) j else tuW ws F (whK wh k) j) = tuW ws F (whK wh (k + 1)) j := by
  by_cases hj : k * F ≤ j ∧ j < k * F + F
  · rw [if_pos hj]
    have e := (div_place hF).1 hj
    unfold tuW
    rw [e, whK_off, whK_at, h, if_neg (by decide), if_pos rfl]
  · rw [if_neg hj]
    have e : j / F ≠ k := fun e => hj ((div_place hF).2 e)
    unfold tuW
    rw [whK_ne e]
theorem tuW_skip {ws : Nat → Int} {F k : Nat} {wh : Nat → Bool} (h : wh k = false) (j : Nat) : tuW ws F (whK wh k) j = tuW ws F (whK wh (k + 1)) j := by
  unfold tuW
  by_cases e : j / F = k
  · rw [e, whK_off, whK_at, h]
  · rw [whK_ne e]
theorem tuF_skip {ns : Nat → Nat → Int} {k : Nat} {wh : Nat → Bool} (h : wh k = false) (x : Nat) : tuF (whK wh k) ns x = tuF (whK wh (k + 1)) ns x := by
  unfold tuF tuN
  by_cases e : x / 8 = k
  · rw [e, whK_off, whK_at, h]
  · rw [whK_ne e]
theorem tuF_step {ns : Nat → Nat → Int} {k : Nat} {wh : Nat → Bool} (h : wh k = true) (x : Nat) : (if x = k * 8 + 4 then -ns k 4 else if x = k * 8 then -ns k 0 else tuF (whK wh k) ns x) = tuF (whK wh (k + 1)) ns x := by
  unfold tuF tuN
  by_cases e : x / 8 = k
  · rw [e, whK_off, whK_at, h]
    by_cases h4 : x = k * 8 + 4
    · rw [if_pos h4, if_pos ⟨rfl, by omega⟩, show x % 8 = 4 by omega]
    · rw [if_neg h4]
      by_cases h0 : x = k * 8
      · rw [if_pos h0, if_pos ⟨rfl, by omega⟩, show x % 8 = 0 by omega]
      · rw [if_neg h0, if_neg (by simp), if_neg (by omega)]
  · rw [if_neg (by omega), if_neg (by omega), whK_ne e]
theorem tuF_at {ns : Nat → Nat → Int} {k c : Nat} {wh : Nat → Bool} (hc : c < 8) : tuF (whK wh k) ns (k * 8 + c) = ns k c := by
  unfold tuF tuN
  rw [show (k * 8 + c) / 8 = k by omega, show (k * 8 + c) % 8 = c by omega, whK_off, if_neg (by simp)]
theorem neg8 {x : Int} (h : -1 ≤ x ∧ x ≤ 1) : IntKind.i8.wrap (-x) = -x := by
  rcases (show x = -1 ∨ x = 0 ∨ x = 1 by omega) with rfl | rfl | rfl <;> decide
noncomputable def ptB2 : Code := (Tryz.f3.body.bind (blockOf 2)).getD .skip
attribute [local go_sem ↓] Go.wp_at_zero Go.wp_at_succ
set_option maxHeartbeats 12800000 in
set_option maxRecDepth 100000 in
theorem tu_b2 (u0 u1 u2 u3 u4 u5 u6 u7 u8 u9 u14 u15 u16 u17 u18 u19 u20 u21 u22 u23 u24 u25 u26 u27 u28 u29 u30 u31 u32 u33 u34 u35 u36 u37 u38 u39 u40 u41 u42 u43 u44 u45 u46 u47 u48 u49 u50 u51 u52 u53 u54 u55 u56 u57 u58 u59 u60 u61 u62 u63 u64 u65 u66 u67 u68 u69 u70 u71 u72 u73 u74 u75 u76 u77 u78 u79 u80 u81 u82 u83 u84 u85 u86 u87 u88 u89 u90 u91 u92 u93 u94 u95 u96 u97 u98 u99 u100 u101 u102 u103 u104 u105 u106 u107 u108 u109 u110 u111 u112 u113 u114 u115 u116 u117 u118 u119 u120 u121 u122 u123 u124 u125 u126 u127 u128 u129 u130 u131 u132 u133 u134 u135 u136 u137 u138 u139 u140 u141 u142 u143 : Value) (g10 F k base : Nat) (L : Ly) (aw : Option Addr) (cw : Nat) (an : Option Addr) (cn : Nat) (ws nf : Nat → Int) (w W1 Wi : World) (Q : Exit → Act → World → Prop) (HT : Hid (TuM Wi base g10 L aw cw an cn ws nf)) (HF : Hid (1 ≤ F ∧ k * F + F ≤ L.mw ∧ L.mw ≤ 16777216)) (HWS : Hid (∀ j, j < L.mw → -1 ≤ ws j ∧ ws j ≤ 1)) (HB : Hid (w.heap.size ≤ base)) (HBI : Hid (BlT w W1 base Wi))
    (hQ : Hid (∀ (X' : World) (v13 v67 v68 v69 v70 v71 v72 v73 v74 v75 v76 v77 v78 v79 v80 v81 v82 v83 v84 v85 v86 v87 v88 v89 : Value), TuM X' base g10 L aw cw an cn (fun j => if k * F ≤ j ∧ j < k * F + F then -ws j else ws j) nf → BlT w W1 base X' → Q .normal ⟨#[u0, u1, u2, u3, u4, u5, u6, u7, u8, u9, .pointer (some ⟨g10, 0, none⟩), .int .i64 (F : Int), .int .i64 (k : Int), v13, u14, u15, u16, u17, u18, u19, u20, u21, u22, u23, u24, u25, u26, u27, u28, u29, u30, u31, u32, u33, u34, u35, u36, u37, u38, u39, u40, u41, u42, u43, u44, u45, u46, u47, u48, u49, u50, u51, u52, u53, u54, u55, u56, u57, u58, u59, u60, u61, u62, u63, u64, u65, u66, v67, v68, v69, v70, v71, v72, v73, v74, v75, v76, v77, v78, v79, v80, v81, v82, v83, v84, v85, v86, v87, v88, v89, u90, u91, u92, u93, u94, u95, u96, u97, u98, u99, u100, u101, u102, u103, u104, u105, u106, u107, u108, u109, u110, u111, u112, u113, u114, u115, u116, u117, u118, u119, u120, u121, u122, u123, u124, u125, u126, u127, u128, u129, u130, u131, u132, u133, u134, u135, u136, u137, u138, u139, u140, u141, u142, u143], []⟩ X')) :
    Code.wp Tryz.prog ptB2 Q ⟨#[u0, u1, u2, u3, u4, u5, u6, u7, u8, u9, .pointer (some ⟨g10, 0, none⟩), .int .i64 (F : Int), .int .i64 (k : Int), .int .i64 0, u14, u15, u16, u17, u18, u19, u20, u21, u22, u23, u24, u25, u26, u27, u28, u29, u30, u31, u32, u33, u34, u35, u36, u37, u38, u39, u40, u41, u42, u43, u44, u45, u46, u47, u48, u49, u50, u51, u52, u53, u54, u55, u56, u57, u58, u59, u60, u61, u62, u63, u64, u65, u66, u67, u68, u69, u70, u71, u72, u73, u74, u75, u76, u77, u78, u79, u80, u81, u82, u83, u84, u85, u86, u87, u88, u89, u90, u91, u92, u93, u94, u95, u96, u97, u98, u99, u100, u101, u102, u103, u104, u105, u106, u107, u108, u109, u110, u111, u112, u113, u114, u115, u116, u117, u118, u119, u120, u121, u122, u123, u124, u125, u126, u127, u128, u129, u130, u131, u132, u133, u134, u135, u136, u137, u138, u139, u140, u141, u142, u143], []⟩ Wi := by
  conv => arg 2; whnf
  obtain ⟨f1, f2, f3⟩ := HF.out
  obtain ⟨kF, hkF⟩ : ∃ kF, kF = k * F := ⟨_, rfl⟩
  have wM : IntKind.i64.wrap ((k : Int) * (F : Int)) = (kF : Int) := by rw [← Int.natCast_mul, ← hkF, IntKind.wrap_i64]; omega
  have hb2 : kF + F ≤ L.mw := by omega
  have HKF := hid1 hkF
  clear hkF f2
  go_wp2_with fail
  go_loopw [13] (fun s13 wr => ∃ j : Nat, j ≤ F ∧ s13 = .int .i64 j ∧ Hid (BlT w W1 base wr) ∧ Hid (TuM wr base g10 L aw cw an cn (fun i => if kF ≤ i ∧ i < kF + j then -ws i else ws i) nf)) (fun s13 _ => F - (intOf s13).toNat)
  case atStart => exact ⟨0, Nat.zero_le _, rfl, HBI, hid1 (HT.out.congr (fun j _ => by rw [if_neg (by omega)]) fun _ _ => rfl)⟩
  case round =>
    clear HT HBI
    obtain ⟨j, hj, rfl, HBR, HTR⟩ := hrel
    have ij0 : (0 : Int) ≤ (j : Int) := by omega
    by_cases hlt : j < F
    · have ilt : (j : Int) < (F : Int) := by omega
      obtain ⟨p, hp⟩ : ∃ p, p = kF + j := ⟨_, rfl⟩
      have hpm : p < L.mw := by omega
      have wA : IntKind.i64.wrap ((kF : Int) + (j : Int)) = (p : Int) := by rw [IntKind.wrap_i64]; omega
      have wj : IntKind.i64.wrap ((j : Int) + 1) = (j : Int) + 1 := by rw [IntKind.wrap_i64]; omega
      obtain ⟨q, eq, hq, -, hc, hz⟩ := HTR.out.wc (by omega)
      have c12 : wr.cell? ⟨g10, 12, none⟩ = some (.slice (some ⟨q, 0, none⟩) L.mw cw) := by rw [← eq]; exact HTR.out.1.cell (i := 12) (by decide)
      obtain ⟨x, hx⟩ : ∃ x, ws p = x := ⟨_, rfl⟩
      have cp : wr.cell? ⟨q, p, none⟩ = some (.int .i8 x) := by
        rw [hc p hpm, if_neg (by omega), hx]
      have fz := hz p
      have wx : IntKind.i8.wrap (-x) = -x := neg8 (by rw [← hx]; exact HWS.out p hpm)
      have ip0 : (0 : Int) ≤ (p : Int) := by omega
      have ipm : (p : Int) < (L.mw : Int) := by omega
      have HN := hid1 (((HTR.out.keep (Below.drew (Below.refl _ _))).wset eq hpm (-x)).congr (ws' := fun i => if kF ≤ i ∧ i < kF + (j + 1) then -ws i else ws i) (nf' := nf) (fun i _ => by
        by_cases e : i = p
        · rw [if_pos e, if_pos (by omega), e, hx]
        · rw [if_neg e]
          by_cases h2 : kF ≤ i ∧ i < kF + j
          · rw [if_pos h2, if_pos (by omega)]
          · rw [if_neg h2, if_neg (by omega)]) fun _ _ => rfl)
      have HBN := hid1 (BlT.set (o := p) HBR.out HB.out hq (.int .i8 (-x)))
      clear hp hc hz eq hx HTR
      go_upto_region 17 with fail
      refine still_tailP 18 (by decide +kernel) ?_
      simp only [List.take_succ_cons, List.take_zero, List.drop_succ_cons, List.drop_zero]
      repeat still_step
      refine wpStill_nil ?_
      go_wp2
      exact ⟨⟨j + 1, by omega, by go_num, HBN, HN⟩, by simp [intOf]; omega⟩
    · have ilt : ¬ (j : Int) < (F : Int) := by omega
      have HE := hid1 (show j = F by omega)
      go_wp2_with fail
      exact hQ.out _ _ _ _ _ _ _ _ _ _ _ _ _ _ _ _ _ _ _ _ _ _ _ _ _ (HTR.out.congr (fun i _ => by rw [← HKF.out, HE.out]) fun _ _ => rfl) HBR.out
end Go.Proofs.YtlgjoepeibodkaaGreat.Nn
/- PLAINTURNED: all outputs turned. -/
namespace Go.Proofs.YtlgjoepeibodkaaGreat.Nn
open Go.RowKit

theorem tuW_bd {ws : Nat → Int} {F : Nat} {wh : Nat → Bool} {m : Nat} (h : ∀ j, j < m → -1 ≤ ws j ∧ ws j ≤ 1) : ∀ j, j < m → -1 ≤ tuW ws F wh j ∧ tuW ws F wh j ≤ 1 := fun j hj => by
  have := h j hj
  unfold tuW
  split <;> omega
theorem nno_bd {L : Ly} {j : Nat} (h : nno L j = 0) : (-2147483647 ≤ L.ns j 0 ∧ L.ns j 0 ≤ 2147483647) ∧ -2147483647 ≤ L.ns j 4 ∧ L.ns j 4 ≤ 2147483647 := by
  unfold nno noE at h
  by_cases e : Fr (L.ns j 0) (L.ns j 1) ∧ Fr (L.ns j 2) (L.ns j 3) ∧ Fr (L.ns j 4) (L.ns j 5) ∧ Fr (L.ns j 6) (L.ns j 7)
  · obtain ⟨⟨-, -, a, b⟩, -, ⟨-, -, c, d⟩, -⟩ := e
    exact ⟨⟨a, b⟩, c, d⟩
  · rw [if_neg e] at h; cases h
noncomputable def ptB0 : Code := (Tryz.f3.body.bind (blockOf 0)).getD .skip
attribute [local go_sem ↓] Go.wp_at_zero Go.wp_at_succ
set_option maxHeartbeats 12800000 in
set_option maxRecDepth 100000 in
theorem tu_b0 (u0 u1 u2 u4 u5 u6 u7 u8 u9 u13 u14 u15 u16 u17 u18 u19 u20 u21 u22 u23 u24 u25 u26 u27 u28 u29 u30 u31 u32 u33 u34 u35 u36 u37 u38 u39 u40 u41 u42 u43 u44 u45 u46 u47 u48 u49 u50 u51 u52 u53 u54 u55 u56 u57 u58 u59 u60 u61 u62 u63 u64 u65 u66 u67 u68 u69 u70 u71 u72 u73 u74 u75 u76 u77 u78 u79 u80 u81 u82 u83 u84 u85 u86 u87 u88 u89 u90 u91 u92 u93 u94 u95 u96 u97 u98 u99 u100 u101 u102 u103 u104 u105 u106 u107 u108 u109 u110 u111 u112 u113 u114 u115 u116 u117 u118 u119 u120 u121 u122 u123 u124 u125 u126 u127 u128 u129 u130 u131 u132 u133 u134 u135 u136 u137 u138 u139 u140 u141 u142 u143 : Value) (ao : Option Addr) (m cap g10 F K base : Nat) (L : Ly) (aw : Option Addr) (cw : Nat) (an : Option Addr) (cn : Nat) (wh : Nat → Bool) (w W1 Wi : World) (Q : Exit → Act → World → Prop) (HT : Hid (TuM Wi base g10 L aw cw an cn L.ws (fun x => L.ns (x / 8) (x % 8)))) (HF : Hid (1 ≤ F ∧ L.mw = K * F ∧ L.mw ≤ 16777216 ∧ L.mn = K ∧ L.k = (K : Int) ∧ 1 ≤ K ∧ K ≤ 4096)) (HWS : Hid (∀ j, j < L.mw → -1 ≤ L.ws j ∧ L.ws j ≤ 1)) (HNS : Hid (∀ j, j < L.mn → nno L j = 0)) (HB : Hid (w.heap.size ≤ base)) (HBI : Hid (BlT w W1 base Wi)) (HWH : Hid (RBo w ao m wh))
    (hQ : Hid (∀ (X' : World) (wh' : Nat → Bool) (v12 v13 v51 v52 v53 v54 v55 v56 v57 v58 v59 v60 v61 v62 v63 v64 v65 v66 v67 v68 v69 v70 v71 v72 v73 v74 v75 v76 v77 v78 v79 v80 v81 v82 v83 v84 v85 v86 v87 v88 v89 v90 v91 v92 v93 v94 v95 v96 v97 v98 v99 v100 v101 v102 v103 v104 v105 v106 v107 v108 v109 v110 v111 v112 v113 v114 v115 v116 v117 : Value), TuM X' base g10 L aw cw an cn (tuW L.ws F wh') (tuF wh' L.ns) → BlT w W1 base X' → Q .normal ⟨#[u0, u1, u2, .slice ao m cap, u4, u5, u6, u7, u8, u9, .pointer (some ⟨g10, 0, none⟩), .int .i64 (F : Int), v12, v13, u14, u15, u16, u17, u18, u19, u20, u21, u22, u23, u24, u25, u26, u27, u28, u29, u30, u31, u32, u33, u34, u35, u36, u37, u38, u39, u40, u41, u42, u43, u44, u45, u46, u47, u48, u49, u50, v51, v52, v53, v54, v55, v56, v57, v58, v59, v60, v61, v62, v63, v64, v65, v66, v67, v68, v69, v70, v71, v72, v73, v74, v75, v76, v77, v78, v79, v80, v81, v82, v83, v84, v85, v86, v87, v88, v89, v90, v91, v92, v93, v94, v95, v96, v97, v98, v99, v100, v101, v102, v103, v104, v105, v106, v107, v108, v109, v110, v111, v112, v113, v114, v115, v116, v117, u118, u119, u120, u121, u122, u123, u124, u125, u126, u127, u128, u129, u130, u131, u132, u133, u134, u135, u136, u137, u138, u139, u140, u141, u142, u143], []⟩ X')) :
    Code.wp Tryz.prog ptB0 Q ⟨#[u0, u1, u2, .slice ao m cap, u4, u5, u6, u7, u8, u9, .pointer (some ⟨g10, 0, none⟩), .int .i64 (F : Int), .int .i64 0, u13, u14, u15, u16, u17, u18, u19, u20, u21, u22, u23, u24, u25, u26, u27, u28, u29, u30, u31, u32, u33, u34, u35, u36, u37, u38, u39, u40, u41, u42, u43, u44, u45, u46, u47, u48, u49, u50, u51, u52, u53, u54, u55, u56, u57, u58, u59, u60, u61, u62, u63, u64, u65, u66, u67, u68, u69, u70, u71, u72, u73, u74, u75, u76, u77, u78, u79, u80, u81, u82, u83, u84, u85, u86, u87, u88, u89, u90, u91, u92, u93, u94, u95, u96, u97, u98, u99, u100, u101, u102, u103, u104, u105, u106, u107, u108, u109, u110, u111, u112, u113, u114, u115, u116, u117, u118, u119, u120, u121, u122, u123, u124, u125, u126, u127, u128, u129, u130, u131, u132, u133, u134, u135, u136, u137, u138, u139, u140, u141, u142, u143], []⟩ Wi := by
  conv => arg 2; whnf
  obtain ⟨f1, f2, f3, f4, f5, f6, f7⟩ := HF.out
  have HF2 := hid1 f2
  have HF5 := hid1 f5
  have HF4 := hid1 f4
  clear f2 f4 f5
  go_wp2_with fail
  go_loopw [12] (fun s12 wr => ∃ k : Nat, k ≤ K ∧ s12 = .int .i64 k ∧ Hid (BlT w W1 base wr) ∧ Hid (TuM wr base g10 L aw cw an cn (tuW L.ws F (whK wh k)) (tuF (whK wh k) L.ns))) (fun s12 _ => K - (intOf s12).toNat)
  case atStart => exact ⟨0, Nat.zero_le _, rfl, HBI, hid1 (HT.out.congr (fun j _ => by unfold tuW; rw [whK_zero, if_neg (by decide)]) fun x _ => by unfold tuF tuN; rw [whK_zero, if_neg (by simp)])⟩
  case round =>
    clear HT HBI
    obtain ⟨k, hk, rfl, HBR, HTR⟩ := hrel
    have ik0 : (0 : Int) ≤ (k : Int) := by omega
    have c2 : wr.cell? ⟨g10, 2, none⟩ = some (.int .i64 (K : Int)) := by rw [← HF5.out]; exact HTR.out.1.cell (i := 2) (by decide)
    by_cases hkK : k < K
    · have ikK : (k : Int) < (K : Int) := by omega
      by_cases hkm : k < m
      · have ikm : (k : Int) < (m : Int) := by omega
        obtain ⟨gb, ob, eb, cb⟩ := (HWH.out.keep HBR.out.1) k hkm
        obtain ⟨wb, hwb⟩ : ∃ wb, wh k = wb := ⟨_, rfl⟩
        rw [hwb] at cb
        have HWB := hid1 hwb
        have HEB := hid1 eb
        subst eb
        clear hwb
        have wk : IntKind.i64.wrap ((k : Int) + 1) = (k : Int) + 1 := by rw [IntKind.wrap_i64]; omega
        cases wb with
        | true =>
          have HFF : Hid (1 ≤ F ∧ k * F + F ≤ L.mw ∧ L.mw ≤ 16777216) := hid1 ⟨f1, by
            rw [HF2.out, ← Nat.succ_mul]
            exact Nat.mul_le_mul_right F hkK, f3⟩
          go_upto_block 2 with fail
          refine tu_b2 _ _ _ _ _ _ _ _ _ _ _ _ _ _ _ _ _ _ _ _ _ _ _ _ _ _ _ _ _ _ _ _ _ _ _ _ _ _ _ _ _ _ _ _ _ _ _ _ _ _ _ _ _ _ _ _ _ _ _ _ _ _ _ _ _ _ _ _ _ _ _ _ _ _ _ _ _ _ _ _ _ _ _ _ _ _ _ _ _ _ _ _ _ _ _ _ _ _ _ _ _ _ _ _ _ _ _ _ _ _ _ _ _ _ _ _ _ _ _ _ _ _ _ _ _ _ _ _ _ _ _ _ _ _ _ _ _ _ _ _ g10 F k base L aw cw an cn _ _ w W1 wr _ HTR HFF (hid1 (tuW_bd HWS.out)) HB HBR (hid1 ?_)
          intro X1 v13 v67 v68 v69 v70 v71 v72 v73 v74 v75 v76 v77 v78 v79 v80 v81 v82 v83 v84 v85 v86 v87 v88 v89 T1 B1
          have HT1 := hid1 (T1.congr (nf' := tuF (whK wh k) L.ns) (fun j _ => tuW_step f1 HWB.out j) fun _ _ => rfl)
          have HB1 := hid1 B1
          clear T1 B1 HTR HBR c2 cb HFF
          obtain ⟨r, er, hr, hc, hz⟩ := HT1.out.nc (by have := HF4.out; omega)
          have hmn : L.mn = K := HF4.out
          have c13 : X1.cell? ⟨g10, 13, none⟩ = some (.slice (some ⟨r, 0, none⟩) L.mn cn) := by rw [← er]; exact HT1.out.1.cell (i := 13) (by decide)
          have ikn : (k : Int) < (L.mn : Int) := by omega
          obtain ⟨x0, hx0⟩ : ∃ x, L.ns k 0 = x := ⟨_, rfl⟩
          obtain ⟨x4, hx4⟩ : ∃ x, L.ns k 4 = x := ⟨_, rfl⟩
          have hbd := nno_bd (HNS.out k (by omega))
          rw [hx0, hx4] at hbd
          have p0 : X1.cell? ⟨r, k * 8, none⟩ = some (.int .i64 x0) := by
            rw [hc (k * 8) (by omega), ← hx0]
            have := tuF_at (ns := L.ns) (k := k) (c := 0) (wh := wh) (by decide)
            rw [Nat.add_zero] at this
            rw [this]
          have p4 : X1.cell? ⟨r, k * 8 + 4, none⟩ = some (.int .i64 x4) := by
            rw [hc (k * 8 + 4) (by omega), ← hx4, tuF_at (by decide)]
          have z0 := hz (k * 8)
          have w0 : IntKind.i64.wrap (-x0) = -x0 := by rw [IntKind.wrap_i64]; omega
          have w4 : IntKind.i64.wrap (-x4) = -x4 := by rw [IntKind.wrap_i64]; omega
          have HTA := hid1 ((HT1.out.keep (Below.drew (Below.refl _ _))).nset er (show k * 8 < L.mn * 8 by omega) (-x0))
          have HBA := hid1 (BlT.set (o := k * 8) HB1.out HB.out hr (.int .i64 (-x0)))
          have HER := hid1 er
          have HX := hid1 (And.intro hx0 hx4)
          have HR := hid1 hr
          have HMN := hid1 hmn
          clear hc hz er hx0 hx4 hbd HT1 HB1 hr hmn
          go_upto_region 18 with fail
          refine still_tailP 14 (by decide +kernel) ?_
          simp only [List.take_succ_cons, List.take_zero, List.drop_succ_cons, List.drop_zero]
          repeat still_step
          refine wpStill_nil ?_
          go_upto_region 19 with fail
          refine gen_world (fun Z => TuM Z base g10 L aw cw an cn (tuW L.ws F (whK wh (k + 1))) (fun j => if j = k * 8 then -x0 else tuF (whK wh k) L.ns j) ∧ BlT w W1 base Z) ⟨HTA.out, HBA.out⟩ ?_
          clear c13 p0 p4 z0 HTA HBA
          rintro Z ⟨TZ, BZ⟩
          have HTZ := hid1 TZ
          have HBZ := hid1 BZ
          clear TZ BZ
          obtain ⟨r2, er2, hr2, hc2, hz2⟩ := HTZ.out.nc (by have := HF4.out; omega)
          have c13 : Z.cell? ⟨g10, 13, none⟩ = some (.slice (some ⟨r2, 0, none⟩) L.mn cn) := by rw [← er2]; exact HTZ.out.1.cell (i := 13) (by decide)
          have p4 : Z.cell? ⟨r2, k * 8 + 4, none⟩ = some (.int .i64 x4) := by
            rw [hc2 (k * 8 + 4) (by have := HF4.out; omega), if_neg (by omega), tuF_at (by decide), HX.out.2]
          have z4 := hz2 (k * 8 + 4)
          have HTB := hid1 (((HTZ.out.keep (Below.drew (Below.refl _ _))).nset er2 (show k * 8 + 4 < L.mn * 8 by have := HF4.out; omega) (-x4)).congr (ws' := tuW L.ws F (whK wh (k + 1))) (nf' := tuF (whK wh (k + 1)) L.ns) (fun _ _ => rfl) fun x _ => by
            rw [← tuF_step HWB.out, HX.out.1, HX.out.2])
          have HBB := hid1 (BlT.set (o := k * 8 + 4) HBZ.out HB.out hr2 (.int .i64 (-x4)))
          clear hc2 hz2 er2 HTZ HBZ hr2
          refine still_tailP 14 (by decide +kernel) ?_
          simp only [List.take_succ_cons, List.take_zero, List.drop_succ_cons, List.drop_zero]
          repeat still_step
          refine wpStill_nil ?_
          go_wp2
          exact ⟨⟨k + 1, by omega, by go_num, HBB, HTB⟩, by simp [intOf]; omega⟩
        | false =>
          have HT2 := hid1 (HTR.out.congr (ws' := tuW L.ws F (whK wh (k + 1))) (nf' := tuF (whK wh (k + 1)) L.ns) (fun j _ => tuW_skip HWB.out j) fun x _ => tuF_skip HWB.out x)
          clear HTR
          go_wp2_with fail
          exact ⟨⟨k + 1, by omega, by go_num, HBR, HT2⟩, by simp [intOf]; omega⟩
      · have ikm : ¬ (k : Int) < (m : Int) := by omega
        go_wp2_with fail
        exact hQ.out _ (whK wh k) _ _ _ _ _ _ _ _ _ _ _ _ _ _ _ _ _ _ _ _ _ _ _ _ _ _ _ _ _ _ _ _ _ _ _ _ _ _ _ _ _ _ _ _ _ _ _ _ _ _ _ _ _ _ _ _ _ _ _ _ _ _ _ _ _ _ _ _ _ HTR.out HBR.out
    · have ikK : ¬ (k : Int) < (K : Int) := by omega
      go_wp2_with fail
      exact hQ.out _ (whK wh k) _ _ _ _ _ _ _ _ _ _ _ _ _ _ _ _ _ _ _ _ _ _ _ _ _ _ _ _ _ _ _ _ _ _ _ _ _ _ _ _ _ _ _ _ _ _ _ _ _ _ _ _ _ _ _ _ _ _ _ _ _ _ _ _ _ _ _ _ _ HTR.out HBR.out
end Go.Proofs.YtlgjoepeibodkaaGreat.Nn
/- PLAINTURNED: the end of the walk. -/
namespace Go.Proofs.YtlgjoepeibodkaaGreat.Nn
open Go.RowKit

noncomputable def ptT : Code := (Tryz.f3.body.bind (fromP (isReg 20))).getD .skip
attribute [local go_sem ↓] Go.wp_at_zero Go.wp_at_succ
set_option maxHeartbeats 12800000 in
set_option maxRecDepth 100000 in
theorem tu_tail (u0 u2 u3 u5 u6 u7 u8 u11 u12 u13 u14 u15 u16 u17 u18 u19 u20 u21 u22 u23 u24 u25 u26 u27 u28 u29 u30 u31 u32 u33 u34 u35 u36 u37 u38 u39 u40 u41 u42 u43 u44 u45 u46 u47 u48 u49 u50 u51 u52 u53 u54 u55 u56 u57 u58 u59 u60 u61 u62 u63 u64 u65 u66 u67 u68 u69 u70 u71 u72 u73 u74 u75 u76 u77 u78 u79 u80 u81 u82 u83 u84 u85 u86 u87 u88 u89 u90 u91 u92 u93 u94 u95 u96 u97 u98 u99 u100 u101 u102 u103 u104 u105 u106 u107 u108 u109 u110 u111 u112 u113 u114 u115 u116 u117 u118 u119 u120 u121 u122 u123 u124 u125 u126 u127 u128 u129 u130 u131 u132 u133 u134 u135 u136 u137 u138 u139 u140 u141 u142 u143 : Value) (N : Nt) (b g10 i F base mx cx : Nat) (ax : Option Addr) (f : Nat → Int) (L : Ly) (aw : Option Addr) (cw : Nat) (an : Option Addr) (cn : Nat) (wh : Nat → Bool) (w W6 : World) (Q : Exit → Act → World → Prop) (HR : Hid (W6.rowIs b 26 5 (netF N.nm N.h N.v N.c (.slice N.al N.ml N.cl)))) (HT : Hid (TuM W6 base g10 L aw cw an cn (tuW L.ws F wh) (tuF wh L.ns))) (HB : Hid (Below w.heap.size w W6)) (HN : Hid (NtW w N)) (HX : Hid (RB w ax mx f)) (HCW : Hid (∀ j, j < N.ml → (N.lf j).mw ≤ (N.lf j).cw)) (HZ : Hid (chE N = 0)) (HL : Hid (N.lf i = L)) (HI : Hid (i < N.ml ∧ 0 < (N.lf i).mn)) (HF : Hid (F = fanN N i)) (HWO : Hid (woV N N.ml ≤ 4194304)) (HSZ : Hid ((mx : Int) = N.h * N.v * N.c))
    (hQ : Hid (∀ (X' : World) (v14 v15 v16 v17 v118 v119 v120 v121 v122 v123 v124 v125 v126 v127 v128 v129 v130 v131 v132 v133 v134 v135 v136 v137 v138 v139 v140 v141 v142 v143 : Value), Below w.heap.size w X' → Q .ret ⟨#[u0, .slice ax mx cx, u2, u3, .pointer (some ⟨b, 0, none⟩), u5, u6, u7, .bool true, .int .i64 (i : Int), .pointer (some ⟨g10, 0, none⟩), u11, u12, u13, v14, v15, v16, v17, u18, u19, u20, u21, u22, u23, u24, u25, u26, u27, u28, u29, u30, u31, u32, u33, u34, u35, u36, u37, u38, u39, u40, u41, u42, u43, u44, u45, u46, u47, u48, u49, u50, u51, u52, u53, u54, u55, u56, u57, u58, u59, u60, u61, u62, u63, u64, u65, u66, u67, u68, u69, u70, u71, u72, u73, u74, u75, u76, u77, u78, u79, u80, u81, u82, u83, u84, u85, u86, u87, u88, u89, u90, u91, u92, u93, u94, u95, u96, u97, u98, u99, u100, u101, u102, u103, u104, u105, u106, u107, u108, u109, u110, u111, u112, u113, u114, u115, u116, u117, v118, v119, v120, v121, v122, v123, v124, v125, v126, v127, v128, v129, v130, v131, v132, v133, v134, v135, v136, v137, v138, v139, v140, v141, v142, v143], []⟩ X')) :
    Code.wp Tryz.prog ptT Q ⟨#[u0, .slice ax mx cx, u2, u3, .pointer (some ⟨b, 0, none⟩), u5, u6, u7, u8, .int .i64 (i : Int), .pointer (some ⟨g10, 0, none⟩), u11, u12, u13, u14, u15, u16, u17, u18, u19, u20, u21, u22, u23, u24, u25, u26, u27, u28, u29, u30, u31, u32, u33, u34, u35, u36, u37, u38, u39, u40, u41, u42, u43, u44, u45, u46, u47, u48, u49, u50, u51, u52, u53, u54, u55, u56, u57, u58, u59, u60, u61, u62, u63, u64, u65, u66, u67, u68, u69, u70, u71, u72, u73, u74, u75, u76, u77, u78, u79, u80, u81, u82, u83, u84, u85, u86, u87, u88, u89, u90, u91, u92, u93, u94, u95, u96, u97, u98, u99, u100, u101, u102, u103, u104, u105, u106, u107, u108, u109, u110, u111, u112, u113, u114, u115, u116, u117, u118, u119, u120, u121, u122, u123, u124, u125, u126, u127, u128, u129, u130, u131, u132, u133, u134, u135, u136, u137, u138, u139, u140, u141, u142, u143], []⟩ W6 := by
  conv => arg 2; whnf
  have CT := hid1 (bo_trace HZ.out HCW.out (to_fits HZ.out HWO.out) HSZ.out ax cx f W6 (HN.out.keep HB.out) (HX.out.keep HB.out))
  have n0 : W6.cell? ⟨b, 0, none⟩ = some (.string N.nm) := HR.out.cell (i := 0) (by decide)
  have n1 : W6.cell? ⟨b, 1, none⟩ = some (.int .i64 N.h) := HR.out.cell (i := 1) (by decide)
  have n2 : W6.cell? ⟨b, 2, none⟩ = some (.int .i64 N.v) := HR.out.cell (i := 2) (by decide)
  have n3 : W6.cell? ⟨b, 3, none⟩ = some (.int .i64 N.c) := HR.out.cell (i := 3) (by decide)
  have n4 : W6.cell? ⟨b, 4, none⟩ = some (.slice N.al N.ml N.cl) := HR.out.cell (i := 4) (by decide)
  go_wp2_with fail
  refine CT.out.mono ?_
  rintro e y1 ⟨g1, c1, rfl, S1, b1⟩
  clear CT n0 n1 n2 n3 n4
  have T1 := HT.out.keep b1
  have R1 := World.rowIs.of_block HR.out (b1.block _ HR.out.lt)
  have HT1 := hid1 T1
  have HS1 := hid1 S1
  have HB1 := hid1 (bl_step HB.out b1)
  have CW : Hid (Calls Tryz.prog 9 #[ntv N, .int .i64 (i : Int), lyv (tuL L F wh aw cw an cn)] y1 fun e w' => ∃ ua uc, e = .returned (ntv (wiN N i (tuL L F wh aw cw an cn) ua uc)) ∧ NtW w' (wiN N i (tuL L F wh aw cw an cn) ua uc) ∧ Below y1.heap.size y1 w') := hid1 (by
    have hm := (wh_parts (fl_all HZ.out).1).2.2
    have h1 := HN.out.keep HB1.out
    obtain ⟨hi, hn⟩ := HI.out
    obtain ⟨_, _, _, _, hls⟩ := h1.1 i hi
    obtain ⟨q1, q2, q3, q4, q5, q6, -, -⟩ := nm_layer HZ.out hi hn
    rw [HL.out] at hls hn q2 q3 q5 q6
    have hmw : 1 ≤ L.mw := by
      rw [q5]
      exact Nat.mul_pos (by omega) q4
    exact with_any N i hi hm.2 (tuL L F wh aw cw an cn) y1 h1 (T1.lst ⟨hmw, q6⟩ ⟨by omega, by omega⟩ hls.2.2.1 hls.2.2.2.2.2 ⟨rfl, rfl, rfl, rfl⟩ ⟨rfl, rfl, rfl⟩ (fun _ _ => rfl) (fun j _ c hc => by
      show tuN L.ns wh j c = tuF wh L.ns (j * 8 + c)
      unfold tuF
      rw [show (j * 8 + c) / 8 = j by omega, show (j * 8 + c) % 8 = c by omega])))
  have n0 : y1.cell? ⟨b, 0, none⟩ = some (.string N.nm) := R1.cell (i := 0) (by decide)
  have n1 : y1.cell? ⟨b, 1, none⟩ = some (.int .i64 N.h) := R1.cell (i := 1) (by decide)
  have n2 : y1.cell? ⟨b, 2, none⟩ = some (.int .i64 N.v) := R1.cell (i := 2) (by decide)
  have n3 : y1.cell? ⟨b, 3, none⟩ = some (.int .i64 N.c) := R1.cell (i := 3) (by decide)
  have n4 : y1.cell? ⟨b, 4, none⟩ = some (.slice N.al N.ml N.cl) := R1.cell (i := 4) (by decide)
  have l0 : y1.cell? ⟨g10, 0, none⟩ = some (.int .i64 L.kd) := T1.1.cell (i := 0) (by decide)
  have l1 : y1.cell? ⟨g10, 1, none⟩ = some (.int .i64 L.wt) := T1.1.cell (i := 1) (by decide)
  have l2 : y1.cell? ⟨g10, 2, none⟩ = some (.int .i64 L.k) := T1.1.cell (i := 2) (by decide)
  have l3 : y1.cell? ⟨g10, 3, none⟩ = some (.int .i64 L.r) := T1.1.cell (i := 3) (by decide)
  have l4 : y1.cell? ⟨g10, 4, none⟩ = some (.int .i64 L.s) := T1.1.cell (i := 4) (by decide)
  have l5 : y1.cell? ⟨g10, 5, none⟩ = some (.int .i64 L.sy) := T1.1.cell (i := 5) (by decide)
  have l6 : y1.cell? ⟨g10, 6, none⟩ = some (.int .i64 L.sx) := T1.1.cell (i := 6) (by decide)
  have l7 : y1.cell? ⟨g10, 7, none⟩ = some (.int .i64 L.t) := T1.1.cell (i := 7) (by decide)
  have l8 : y1.cell? ⟨g10, 8, none⟩ = some (.int .i64 L.l) := T1.1.cell (i := 8) (by decide)
  have l9 : y1.cell? ⟨g10, 9, none⟩ = some (.int .i64 L.b) := T1.1.cell (i := 9) (by decide)
  have l10 : y1.cell? ⟨g10, 10, none⟩ = some (.int .i64 L.q) := T1.1.cell (i := 10) (by decide)
  have l11 : y1.cell? ⟨g10, 11, none⟩ = some (.int .i64 L.bd) := T1.1.cell (i := 11) (by decide)
  have l12 : y1.cell? ⟨g10, 12, none⟩ = some (.slice aw L.mw cw) := T1.1.cell (i := 12) (by decide)
  have l13 : y1.cell? ⟨g10, 13, none⟩ = some (.slice an L.mn cn) := T1.1.cell (i := 13) (by decide)
  have l14 : y1.cell? ⟨g10, 14, none⟩ = some (.slice L.ab L.mb L.cb) := T1.1.cell (i := 14) (by decide)
  clear T1 R1 S1 b1 HT HR HB
  dsimp only [ntv, lyv, tuL, wiN] at CW
  go_wp2_with fail
  refine CW.out.mono ?_
  rintro e y2 ⟨ua, uc, rfl, NW, b2⟩
  have CT := hid1 (tu_trace HZ.out HCW.out HWO.out HI.out.1 HI.out.2 HF.out (wh := wh) (aw := aw) (an := an) (ua := ua) (cw := cw) (cn := cn) (uc := uc) (by
    rw [HL.out]
    obtain ⟨hi, hn⟩ := HI.out
    obtain ⟨q1, q2, q3, q4, q5, q6, -, -⟩ := nm_layer HZ.out hi hn
    rw [HL.out] at q3 q5
    obtain ⟨_, _, _, h, _⟩ := HT1.out.wc (by rw [q5]; exact Nat.mul_pos (by omega) q4)
    exact h) HSZ.out ax cx f y2 (by rw [HL.out]; exact NW) ((HX.out.keep HB1.out).keep b2))
  have HS2 := hid1 (HS1.out.keep b2)
  have HB2 := hid1 (bl_step HB1.out b2)
  clear NW b2 CW n0 n1 n2 n3 n4 l0 l1 l2 l3 l4 l5 l6 l7 l8 l9 l10 l11 l12 l13 l14 HB1 HT1 HS1
  rw [HL.out] at CT
  dsimp only [ntv, lyv, tuL, wiN] at CT
  go_wp2_with fail
  refine CT.out.mono ?_
  rintro e y3 ⟨g2, c2, rfl, S3, b3⟩
  have hml : N.ml ≤ 9223372036854775807 := HN.out.2.1
  have CS := hid1 (steps_same N.ml _ _ _ _ _ (some ⟨g1, 0, none⟩) (some ⟨g2, 0, none⟩) c1 c2 y3 hml (HS2.out.keep b3) S3)
  have HB3 := hid1 (bl_step HB2.out b3)
  clear S3 b3 CT HS2 HB2 hml
  go_wp2_with fail
  refine CS.out.mono ?_
  rintro e y4 ⟨rfl, b4⟩
  have HB4 := hid1 (bl_step HB3.out b4)
  clear b4 CS HB3
  go_wp2_with fail
  exact hQ.out _ _ _ _ _ _ _ _ _ _ _ _ _ _ _ _ _ _ _ _ _ _ _ _ _ _ _ _ _ _ _ HB4.out
end Go.Proofs.YtlgjoepeibodkaaGreat.Nn
/- PLAINTURNED: the walk. -/
namespace Go.Proofs.YtlgjoepeibodkaaGreat.Nn
open Go.RowKit

theorem ls_w {W : World} {g : Nat} {L : Ly} {aw : Option Addr} {cw : Nat} (h : W.rowIs g 38 15 (lyf L)) : (W.setCell ⟨g, 12, none⟩ (.slice aw L.mw cw)).rowIs g 38 15 (lyf (lsL L aw cw L.an L.cn)) := by
  refine (h.set 12 (.slice aw L.mw cw)).congr fun i hi => ?_
  rcases (show i = 0 ∨ i = 1 ∨ i = 2 ∨ i = 3 ∨ i = 4 ∨ i = 5 ∨ i = 6 ∨ i = 7 ∨ i = 8 ∨ i = 9 ∨ i = 10 ∨ i = 11 ∨ i = 12 ∨ i = 13 ∨ i = 14 by omega) with rfl | rfl | rfl | rfl | rfl | rfl | rfl | rfl | rfl | rfl | rfl | rfl | rfl | rfl | rfl <;> rfl
theorem ls_n {W : World} {g : Nat} {L : Ly} {aw an : Option Addr} {cw cn : Nat} (h : W.rowIs g 38 15 (lyf (lsL L aw cw L.an L.cn))) : (W.setCell ⟨g, 13, none⟩ (.slice an L.mn cn)).rowIs g 38 15 (lyf (lsL L aw cw an cn)) := by
  refine (h.set 13 (.slice an L.mn cn)).congr fun i hi => ?_
  rcases (show i = 0 ∨ i = 1 ∨ i = 2 ∨ i = 3 ∨ i = 4 ∨ i = 5 ∨ i = 6 ∨ i = 7 ∨ i = 8 ∨ i = 9 ∨ i = 10 ∨ i = 11 ∨ i = 12 ∨ i = 13 ∨ i = 14 by omega) with rfl | rfl | rfl | rfl | rfl | rfl | rfl | rfl | rfl | rfl | rfl | rfl | rfl | rfl | rfl <;> rfl
attribute [local go_sem ↓] Go.wp_at_zero Go.wp_at_succ
set_option maxHeartbeats 12800000 in
set_option maxRecDepth 100000 in
theorem plainTurned_any (N : Nt) (ax : Option Addr) (mx cx : Nat) (f : Nat → Int) (at0 : Int) (ao : Option Addr) (m cap : Nat) (wh : Nat → Bool) (w : World) (hN : NtW w N) (hcw : ∀ j, j < N.ml → (N.lf j).mw ≤ (N.lf j).cw) (hx : RB w ax mx f) (hwh : RBo w ao m wh) :
    Calls Tryz.prog 3 #[ntv N, .slice ax mx cx, .int .i64 at0, .slice ao m cap] w fun e w' => e = .returned (.bool true) ∧ Below w.heap.size w w' := by
  have HN := hid1 hN
  have HX := hid1 hx
  have HCW := hid1 hcw
  have HWH := hid1 hwh
  clear hN hx hcw hwh
  obtain ⟨b, hb0⟩ : ∃ b, w.heap.size = b := ⟨_, rfl⟩
  go_enter Tryz.func3, Tryz.ntmps3
  go_upto_region 1 with fail
  refine gen_world (fun X => X.rowIs b 26 5 (netF N.nm N.h N.v N.c (.slice N.al N.ml N.cl)) ∧ Below w.heap.size w X) ⟨by rw [← hb0]; exact net_newF _ _ _ _ _ _ _, by repeat (first | (with_reducible exact Below.refl _ _) | (with_reducible refine bl_alloc ?_ _) | (with_reducible refine Below.drew ?_) | (with_reducible refine bl_drewN ?_ _) | (with_reducible refine bl_set ?_ (by omega) _) | (with_reducible refine bl_step ?_ (by assumption)))⟩ ?_
  rintro X0 ⟨R0, B0⟩
  have HR0 := hid1 R0
  have HB0 := hid1 B0
  clear R0 B0
  go_wp2_with fail
  refine (begun6_any X0).mono ?_
  rintro e X1 ⟨rfl, b1⟩
  have R1 := World.rowIs.of_block HR0.out (b1.block _ HR0.out.lt)
  have HR1 := hid1 R1
  have HB1 := hid1 (bl_step HB0.out b1)
  have n0 : X1.cell? ⟨b, 0, none⟩ = some (.string N.nm) := R1.cell (i := 0) (by decide)
  have n1 : X1.cell? ⟨b, 1, none⟩ = some (.int .i64 N.h) := R1.cell (i := 1) (by decide)
  have n2 : X1.cell? ⟨b, 2, none⟩ = some (.int .i64 N.v) := R1.cell (i := 2) (by decide)
  have n3 : X1.cell? ⟨b, 3, none⟩ = some (.int .i64 N.c) := R1.cell (i := 3) (by decide)
  have n4 : X1.cell? ⟨b, 4, none⟩ = some (.slice N.al N.ml N.cl) := R1.cell (i := 4) (by decide)
  have CF := hid1 (fits6_any N ax mx cx X1 (HN.out.keep HB1.out))
  clear R1 b1 HR0 HB0
  go_wp2_with fail
  refine CF.out.mono ?_
  rintro e X2 ⟨bo, rfl, hbo, b2⟩
  have HBO := hid1 hbo
  have HR2 := hid1 (World.rowIs.of_block HR1.out (b2.block _ HR1.out.lt))
  have HB2 := hid1 (bl_step HB1.out b2)
  clear n0 n1 n2 n3 n4 CF hbo b2 HR1 HB1
  cases bo with
  | false =>
    go_wp2_with fail
    refine (begun6_any X2).mono ?_
    rintro e X3 ⟨rfl, b3⟩
    have HB3 := hid1 (bl_step HB2.out b3)
    clear b3
    go_wp2_with fail
    go_ret
    exact ⟨rfl, HB3.out⟩
  | true =>
    have HF := hid1 (HBO.out.1 rfl)
    clear HBO
    obtain ⟨hz, hsz, hwo⟩ := HF.out
    have HM1 := hid1 (wh_parts (fl_all hz).1).2.2
    have HZ := hid1 hz
    have HSZ := hid1 hsz
    have HWO := hid1 hwo
    clear hz hsz hwo HF
    have CI := hid1 (inner_any N at0 HM1.out.2 X2 (HN.out.keep HB2.out))
    have n0 : X2.cell? ⟨b, 0, none⟩ = some (.string N.nm) := HR2.out.cell (i := 0) (by decide)
    have n1 : X2.cell? ⟨b, 1, none⟩ = some (.int .i64 N.h) := HR2.out.cell (i := 1) (by decide)
    have n2 : X2.cell? ⟨b, 2, none⟩ = some (.int .i64 N.v) := HR2.out.cell (i := 2) (by decide)
    have n3 : X2.cell? ⟨b, 3, none⟩ = some (.int .i64 N.c) := HR2.out.cell (i := 3) (by decide)
    have n4 : X2.cell? ⟨b, 4, none⟩ = some (.slice N.al N.ml N.cl) := HR2.out.cell (i := 4) (by decide)
    go_wp2_with fail
    refine CI.out.mono ?_
    rintro e X3 ⟨r, rfl, hr, b3⟩
    have HRR := hid1 hr
    have HR3 := hid1 (World.rowIs.of_block HR2.out (b3.block _ HR2.out.lt))
    have HB3 := hid1 (bl_step HB2.out b3)
    clear n0 n1 n2 n3 n4 CI hr b3 HR2 HB2
    rcases HRR.out with hr | ⟨i, hr, hi, hn⟩
    · clear HRR
      subst hr
      go_wp2_with fail
      go_ret
      exact ⟨rfl, HB3.out⟩
    · clear HRR
      subst hr
      have HI := hid1 (And.intro hi hn)
      obtain ⟨q1, q2, q3, q4, q5, q6, q7, q8⟩ := nm_layer HZ.out hi hn
      obtain ⟨g, o, e, LC, LS⟩ := (HN.out.keep HB3.out).1 i hi
      obtain ⟨L, hL⟩ : ∃ L, N.lf i = L := ⟨_, rfl⟩
      obtain ⟨F, hF⟩ : ∃ F, F = fanN N i := ⟨_, rfl⟩
      rw [hL] at LC LS q2 q3 q5 q6 q7 q8 hn
      rw [← hF] at q4 q5
      obtain ⟨K, eK⟩ := Int.eq_ofNat_of_zero_le (show 0 ≤ L.k by omega)
      have HL := hid1 hL
      have HF := hid1 hF
      have HQ : Hid (1 ≤ F ∧ L.mw = K * F ∧ L.mw ≤ 16777216 ∧ L.mn = K ∧ L.k = (K : Int) ∧ 1 ≤ K ∧ K ≤ 4096) := hid1 ⟨q4, by rw [q5, eK]; rfl, q6, by omega, eK, by omega, by omega⟩
      have HQW := hid1 q7
      have HQN := hid1 q8
      have n4 : X3.cell? ⟨b, 4, none⟩ = some (.slice (some ⟨g, o, none⟩) N.ml N.cl) := by rw [← e]; exact HR3.out.cell (i := 4) (by decide)
      clear e hL hF q1 q2 q3 q4 q5 q6 q7 q8 eK LS hn
      have ii0 : (0 : Int) ≤ (i : Int) := by omega
      have ii : (i : Int) < (N.ml : Int) := by omega
      obtain ⟨c0, c1, c2, c3, c4, c5, c6, c7, c8, c9, c10, c11, c12, c13, c14⟩ := LC
      obtain ⟨g5, hg5⟩ : ∃ g5, X3.heap.size = g5 := ⟨_, rfl⟩
      go_upto_region 7 with fail
      refine gen_world (fun X => X.rowIs b 26 5 (netF N.nm N.h N.v N.c (.slice N.al N.ml N.cl)) ∧ X.rowIs g5 38 15 (lyf L) ∧ X.heap.size = g5 + 1 ∧ Below w.heap.size w X ∧ w.heap.size < g5) ⟨World.rowIs.of_block HR3.out (old_block _ _ HR3.out.lt), by rw [← hg5]; exact lyf_new X3 L _, by simp [hg5], bl_alloc HB3.out _, by have := HR3.out.lt; omega⟩ ?_
      clear c0 c1 c2 c3 c4 c5 c6 c7 c8 c9 c10 c11 c12 c13 c14 n4 hg5 HR3 HB3 ii0 ii
      rintro X4 ⟨R0, R5, z4, B4, hw5⟩
      have HR0 := hid1 R0
      have HR5 := hid1 R5
      have HB4 := hid1 B4
      have HW5 := hid1 hw5
      have HZ4 := hid1 z4
      have HLS := hid1 (by obtain ⟨_, _, _, _, h⟩ := (HN.out.keep B4).1 i hi; rw [HL.out] at h; exact h : Lst X4 L)
      have HMW : Hid (1 ≤ L.mw ∧ L.mw ≤ 16777216) := hid1 ⟨by rw [HQ.out.2.1]; exact Nat.mul_pos HQ.out.2.2.2.2.2.1 HQ.out.1, HQ.out.2.2.1⟩
      have HMN : Hid (1 ≤ L.mn ∧ L.mn ≤ 4096) := hid1 (by have := HQ.out; omega)
      have l2 : X4.cell? ⟨g5, 2, none⟩ = some (.int .i64 (K : Int)) := by rw [← HQ.out.2.2.2.2.1]; exact R5.cell (i := 2) (by decide)
      have l12 : X4.cell? ⟨g5, 12, none⟩ = some (.slice L.aw L.mw L.cw) := R5.cell (i := 12) (by decide)
      have hK0 : ¬ (K : Int) = 0 := by have := HQ.out; omega
      have hqq : ((L.mw : Int)).tdiv (K : Int) = (F : Int) := by
        rw [HQ.out.2.1, Int.natCast_mul]
        exact Int.mul_tdiv_cancel_left _ hK0
      have hFb : F ≤ 16777216 := by
        have h1 := HMW.out.2
        rw [HQ.out.2.1] at h1
        exact Nat.le_trans (Nat.le_mul_of_pos_left F HQ.out.2.2.2.2.2.1) h1
      clear R0 R5 B4 hw5 z4 hi
      go_upto_region 9 with (at_builtin; refine app_clWT rfl _ _ rfl L (by go_simp) (by go_simp) HLS.out.1 HMW.out ?_; intro v1 y1 own1 bb1; obtain ⟨a1, d1, rfl⟩ := own_isP own1; have HO1 := hid1 own1; have HB1 := hid1 bb1; have R5 := World.rowIs.of_block HR5.out (bb1.block _ HR5.out.lt); have m12 : y1.cell? ⟨g5, 12, none⟩ = some (.slice L.aw L.mw L.cw) := R5.cell (i := 12) (by decide); have f12 := R5.frozen 12; clear own1 bb1 R5)
      refine gen_world (fun Y => Y.rowIs b 26 5 (netF N.nm N.h N.v N.c (.slice N.al N.ml N.cl)) ∧ Y.rowIs g5 38 15 (lyf (lsL L a1 d1 L.an L.cn)) ∧ Y.ownsRow (g5 + 1) 39 1 (.slice a1 L.mw d1) L.mw (clT L.mw fun j => .int .i8 (L.ws j)) ∧ Below w.heap.size w Y ∧ g5 + 1 ≤ Y.heap.size) ?gw9 ?_
      case gw9 =>
        have h1 := HB1.out
        have h5 := HW5.out
        have hs := HZ4.out
        exact ⟨(World.rowIs.of_block HR0.out (h1.block _ HR0.out.lt)).setOther (by show b ≠ g5; omega) _, ls_w (World.rowIs.of_block HR5.out (h1.block _ HR5.out.lt)), own_setD (HO1.out.mono (by omega)) (by omega), bl_set (bl_step HB4.out h1) (by omega) _, by have := h1.size; simp; omega⟩
      clear l2 l12 m12 f12 HO1 HB1 HR0 HR5 HB4 HZ4 HLS hqq hK0
      rintro Y1 ⟨R0, R5, OW, BY, zY⟩
      have HR0 := hid1 R0
      have HR5 := hid1 R5
      have HOW := hid1 OW
      have HBY := hid1 BY
      have HZY := hid1 zY
      have HLS := hid1 (by obtain ⟨_, _, _, _, h⟩ := (HN.out.keep BY).1 i HI.out.1; rw [HL.out] at h; exact h : Lst Y1 L)
      have l13 : Y1.cell? ⟨g5, 13, none⟩ = some (.slice L.an L.mn L.cn) := R5.cell (i := 13) (by decide)
      clear R0 R5 OW BY zY
      go_upto_region 10 with (at_builtin; refine app_clNT rfl _ _ rfl L (by go_simp) (by go_simp) HLS.out.2.1 HMN.out ?_; intro v1 y1 own1 bb1; obtain ⟨a2, d2, rfl⟩ := own_isP own1; have HO1 := hid1 own1; have HB1 := hid1 bb1; have R5 := World.rowIs.of_block HR5.out (bb1.block _ HR5.out.lt); have m13 : y1.cell? ⟨g5, 13, none⟩ = some (.slice L.an L.mn L.cn) := R5.cell (i := 13) (by decide); have f13 := R5.frozen 13; clear own1 bb1 R5)
      refine gen_world (fun Y => Y.rowIs b 26 5 (netF N.nm N.h N.v N.c (.slice N.al N.ml N.cl)) ∧ TuM Y (g5 + 1) g5 L a1 d1 a2 d2 L.ws (fun x => L.ns (x / 8) (x % 8)) ∧ Below w.heap.size w Y) ?gw10 ?_
      case gw10 =>
        have h1 := HB1.out
        have h5 := HW5.out
        have hs := HZY.out
        exact ⟨(World.rowIs.of_block HR0.out (h1.block _ HR0.out.lt)).setOther (by show b ≠ g5; omega) _, ⟨ls_n (World.rowIs.of_block HR5.out (h1.block _ HR5.out.lt)), own_setD (own_bl HOW.out h1) (by omega), own_setD (HO1.out.mono hs) (by omega)⟩, bl_set (bl_step HBY.out h1) (by omega) _⟩
      clear l13 m13 f13 HO1 HB1 HR0 HR5 HBY HZY HLS HOW
      rintro Y2 ⟨R0, TM, BY⟩
      have HR0 := hid1 R0
      have HTM := hid1 TM
      have HBY := hid1 BY
      have HBS : Hid (w.heap.size ≤ g5 + 1) := hid1 (by have := HW5.out; omega)
      clear R0 TM BY
      go_upto_block 0 with fail
      refine tu_b0 _ _ _ _ _ _ _ _ _ _ _ _ _ _ _ _ _ _ _ _ _ _ _ _ _ _ _ _ _ _ _ _ _ _ _ _ _ _ _ _ _ _ _ _ _ _ _ _ _ _ _ _ _ _ _ _ _ _ _ _ _ _ _ _ _ _ _ _ _ _ _ _ _ _ _ _ _ _ _ _ _ _ _ _ _ _ _ _ _ _ _ _ _ _ _ _ _ _ _ _ _ _ _ _ _ _ _ _ _ _ _ _ _ _ _ _ _ _ _ _ _ _ _ _ _ _ _ _ _ _ _ _ _ _ _ _ _ _ _ _ ao m cap g5 F K (g5 + 1) L a1 d1 a2 d2 wh w Y2 Y2 _ HTM HQ HQW HQN HBS (hid1 ⟨HBY.out, Below.refl _ _⟩) HWH (hid1 ?_)
      intro X6 wh' v12 v13 v51 v52 v53 v54 v55 v56 v57 v58 v59 v60 v61 v62 v63 v64 v65 v66 v67 v68 v69 v70 v71 v72 v73 v74 v75 v76 v77 v78 v79 v80 v81 v82 v83 v84 v85 v86 v87 v88 v89 v90 v91 v92 v93 v94 v95 v96 v97 v98 v99 v100 v101 v102 v103 v104 v105 v106 v107 v108 v109 v110 v111 v112 v113 v114 v115 v116 v117 T6 B6
      have HT6 := hid1 T6
      have HB6 := hid1 B6.1
      have HR6 : Hid (X6.rowIs b 26 5 (netF N.nm N.h N.v N.c (.slice N.al N.ml N.cl))) := hid1 (World.rowIs.of_block HR0.out (B6.2.block b (by have := HW5.out; omega)))
      clear T6 B6 HTM HBY
      refine kgo (by assumption) ?_
      refine tu_tail _ _ _ _ _ _ _ _ _ _ _ _ _ _ _ _ _ _ _ _ _ _ _ _ _ _ _ _ _ _ _ _ _ _ _ _ _ _ _ _ _ _ _ _ _ _ _ _ _ _ _ _ _ _ _ _ _ _ _ _ _ _ _ _ _ _ _ _ _ _ _ _ _ _ _ _ _ _ _ _ _ _ _ _ _ _ _ _ _ _ _ _ _ _ _ _ _ _ _ _ _ _ _ _ _ _ _ _ _ _ _ _ _ _ _ _ _ _ _ _ _ _ _ _ _ _ _ _ _ _ _ _ _ _ _ _ _ _ _ _ N b g5 i F (g5 + 1) mx cx ax f L a1 d1 a2 d2 wh' w X6 _ HR6 HT6 HB6 HN HX HCW HZ HL HI HF HWO HSZ (hid1 ?_)
      intro X9 v14 v15 v16 v17 v118 v119 v120 v121 v122 v123 v124 v125 v126 v127 v128 v129 v130 v131 v132 v133 v134 v135 v136 v137 v138 v139 v140 v141 v142 v143 B9
      go_ret
      exact ⟨rfl, by first | exact B9 | (rw [← hb0]; exact B9)⟩
end Go.Proofs.YtlgjoepeibodkaaGreat.Nn
namespace Go.Proofs.YtlgjoepeibodkaaGreat
open Go.ChangeShapes Go.WideShapes Go.ChangeAt Go.RowKit

set_option maxRecDepth 100000 in
theorem plainTurned_lifted (os : Os) (started : os.Started) (H : Type) (enc : TypeId × Value → H) :
    ReturnsInHanded {} Tryz.checked os 3 .any (Rows.plainTurnedSpec.pre6 enc Tryz.prog Tryz.f3 Rows.plainTurnedRow.domain false) (Rows.plainTurnedSpec.post enc Tryz.prog Tryz.f3 false true false false) := by
  refine returnsInHanded_of_change_sized (C := Tryz.checked) own started (by kernel_rfl) Tryz.func3
    (ChangeSpec.witness6 (enc := enc) (C := Tryz.checked) false ⟨#[], #[.agg #[.string ⟨#[]⟩, .int .i64 0, .int .i64 0, .int .i64 0, .slice none 0 0], .slice none 0 0, .int .i64 0, .slice none 0 0], []⟩ 8 (by kernel_rfl) (by kernel_rfl) (by kernel_rfl) (by kernel_rfl)) ?_
  intro W base args ds gs before hval0 hW _ _ _
  have hval : ∀ (j : Nat) t v, Tryz.f3.params[j]? = some t → args[j]? = some v → Value.okWide Tryz.prog W .any base t v := hval0
  have hW' := hW
  obtain ⟨p, q, hA0, hV, rfl, hfz, hnd⟩ := hW
  have hA : DataW.TrodAll enc Tryz.prog W 0 (fun _ => true) true Tryz.f3.params.toList args.toList ds p := hA0
  rw [Tryz.params3] at hA hval
  obtain ⟨v0, vs0, d0, ds0, p0, q0, hargs, rfl, rfl, h0, r0⟩ := trodAll_cons hA
  obtain ⟨v1, vs1, d1, ds1, p1, q1, rfl, rfl, rfl, h1, r1⟩ := trodAll_cons r0
  obtain ⟨v2, vs2, d2, ds2, p2, q2, rfl, rfl, rfl, h2, r2⟩ := trodAll_cons r1
  obtain ⟨v3, vs3, d3, ds3, p3, q3, rfl, rfl, rfl, h3, r3⟩ := trodAll_cons r2
  obtain ⟨rfl, rfl, rfl⟩ := trodAll_nil r3
  obtain rfl : args = #[v0, v1, v2, v3] := by cases args; simp_all
  obtain ⟨rfl, rfl⟩ := trodVars_none hV
  have lt0 : ∀ x ∈ p0, x.block < W.heap.size := by obtain ⟨m, hm⟩ := h0; exact DataW.trod_lt m _ _ _ hm
  have k0 := h0
  have lt1 : ∀ x ∈ p1, x.block < W.heap.size := by obtain ⟨m, hm⟩ := h1; exact DataW.trod_lt m _ _ _ hm
  have k1 := h1
  have lt2 : ∀ x ∈ p2, x.block < W.heap.size := by obtain ⟨m, hm⟩ := h2; exact DataW.trod_lt m _ _ _ hm
  have k2 := h2
  have lt3 : ∀ x ∈ p3, x.block < W.heap.size := by obtain ⟨m, hm⟩ := h3; exact DataW.trod_lt m _ _ _ hm
  have k3 := h3
  obtain ⟨N0, rfl, nw0, nl0, nc0⟩ := open_net (hval 0 26 v0 rfl rfl) h0
  obtain ⟨ao1, m1, c1, fn1, rfl, hm1, hc1, f1⟩ := open_u8s (hval 1 27 v1 rfl rfl) h1
  obtain ⟨x2, rfl, rfl, rfl, w2⟩ := open_int Tryz.underlying3 (hval 2 3 v2 rfl rfl) h2
  obtain ⟨ao3, m3, c3, fn3, rfl, hm3, hc3, f3⟩ := open_bools (hval 3 28 v3 rfl rfl) h3
  clear hA0 hval0
  refine (Nn.plainTurned_any N0 ao1 m1 c1 fn1 x2 ao3 m3 c3 fn3 W nw0 (fun j hj => (nc0 j hj).1) (fun k hk => by obtain ⟨h, g, o, e, c⟩ := f1 k hk; exact ⟨g, o, e, c, h.1, h.2⟩) f3).mono fun e W' ⟨he, bel⟩ => ?_
  subst he
  exact ⟨_, rfl, _, _, _, [], _, [], hW', trodAll_mk1 (shut_bool Tryz.underlying4 _), (trodAll_cons_mk (Below.trod laidOut (by kernel_rfl) (of_decide_eq_true (by kernel_rfl)) k0 bel lt0) (trodAll_cons_mk (Below.trod laidOut (by kernel_rfl) (of_decide_eq_true (by kernel_rfl)) k1 bel lt1) (trodAll_cons_mk (Below.trod laidOut (by kernel_rfl) (of_decide_eq_true (by kernel_rfl)) k2 bel lt2) (trodAll_cons_mk (Below.trod laidOut (by kernel_rfl) (of_decide_eq_true (by kernel_rfl)) k3 bel lt3) trodAll_mk0)))), rfl, bel.frame _, fun h => by cases h⟩

theorem plainTurned_holds : Rows.PlainTurnedSaid :=
  OpenClaim.holds_of_wide 3 Tryz.f3 rfl rfl rfl rfl rfl rfl rfl ⟨rfl, rfl, rfl, rfl, rfl⟩ rfl rfl rfl rfl rfl (by kernel_rfl) Tryz.func3 (by kernel_rfl)
    (of_decide_eq_true (by kernel_rfl)) (by unfold Func.isWrapper; first | (rw [if_pos (by decide +kernel)]; kernel_rfl) | (rw [if_neg (by decide +kernel)]; exact ⟨rfl, rfl⟩))
    (fun os started H enc _ => plainTurned_lifted os started H enc)
#print axioms plainTurned_holds
end Go.Proofs.YtlgjoepeibodkaaGreat
