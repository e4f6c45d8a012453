import Derived.Test.YtkfjgfijhaoliaaQDPlainBorder
import Derived.Deep.MidRow
import Derived.Test.YtkfjgfijhaoliaaQCPlainBorder
import Derived.Test.YtkfjgfijhaoliaaQAPlainBorder
/- PLAIN'S STATEMENTS: a network with another layer in the place of one. -/
namespace Go.Proofs.Ytkfjgfijhaoliaa.Nn
open Go.RowKit

/-- A list with others laid into it from a place on. -/
def putW : List Value → Nat → List Value → List Value
  | xs, _, [] => xs
  | xs, o, v :: r => putW (xs.set o v) (o + 1) r
theorem putW_get : ∀ (vs : List Value) (xs : List Value) (o k : Nat), o + vs.length ≤ xs.length → (putW xs o vs)[k]? = if o ≤ k ∧ k < o + vs.length then vs[k - o]? else xs[k]?
  | [], xs, o, k, _ => by rw [putW, if_neg (by simp only [List.length_nil]; omega)]
  | v :: r, xs, o, k, h => by
    simp only [List.length_cons] at h ⊢
    rw [putW, putW_get r (xs.set o v) (o + 1) k (by rw [List.length_set]; omega)]
    by_cases hk : k = o
    · subst hk
      rw [if_neg (by omega), if_pos (by omega), Nat.sub_self, List.getElem?_set_self (by omega)]
      rfl
    · by_cases h1 : o + 1 ≤ k ∧ k < o + 1 + r.length
      · rw [if_pos h1, if_pos (by omega), show k - o = (k - (o + 1)) + 1 by omega, List.getElem?_cons_succ]
      · rw [if_neg h1, if_neg (by omega), List.getElem?_set_ne (by omega)]
theorem own_setW {base e size g n cap : Nat} : ∀ (vs : List Value) (o : Nat) (W : World) (xs : List Value), W.ownsRow base e size (.slice (some ⟨g, 0, none⟩) n cap) n xs → (W.setCells g o vs).ownsRow base e size (.slice (some ⟨g, 0, none⟩) n cap) n (putW xs o vs) ∧ W.grownBy (W.setCells g o vs) (some g)
  | [], _, W, _, h => ⟨h, gr_refl W _⟩
  | v :: r, o, W, xs, h => by
    obtain ⟨h1, h2⟩ := h.stored o v
    obtain ⟨h3, h4⟩ := own_setW r (o + 1) _ _ h1
    exact ⟨h3, gr_step h2 h4 (.inl rfl)⟩
theorem ls_putW {lf : Nat → Ly} {M i : Nat} (hi : i < M) (L : Ly) : putW (lyLs lf M) (i * 15) (lyC L) = lyLs (sn lf i L) M := by
  apply List.ext_getElem?
  intro k
  have hl : (lyLs lf M).length = M * 15 := rl_len (s := 15) (fun _ => rfl) M
  have hl2 : (lyLs (sn lf i L) M).length = M * 15 := rl_len (s := 15) (fun _ => rfl) M
  have hc : (lyC L).length = 15 := rfl
  rw [putW_get _ _ _ _ (by rw [hl, hc]; omega), hc]
  by_cases hk : k < M * 15
  · have e : k = (k / 15) * 15 + k % 15 := by omega
    have h1 : (lyLs (sn lf i L) M)[k]? = (lyC (sn lf i L (k / 15)))[k % 15]? := by
      conv => lhs; rw [e]
      exact rl_get (s := 15) (fun _ => rfl) M (by omega) (by omega)
    have h2 : (lyLs lf M)[k]? = (lyC (lf (k / 15)))[k % 15]? := by
      conv => lhs; rw [e]
      exact rl_get (s := 15) (fun _ => rfl) M (by omega) (by omega)
    rw [h1, h2]
    by_cases hj : k / 15 = i
    · rw [if_pos (by omega), show k - i * 15 = k % 15 by omega]
      unfold sn
      rw [if_pos hj]
    · rw [if_neg (by omega)]
      unfold sn
      rw [if_neg hj]
  · rw [if_neg (by omega), List.getElem?_eq_none (by omega), List.getElem?_eq_none (by omega)]
theorem ls_cellW {W : World} {base G uc M i c : Nat} {lf : Nat → Ly} (h : W.ownsRow base 36 15 (.slice (some ⟨G, 0, none⟩) M uc) M (lyLs lf M)) (hi : i < M) (hc : c < 15) : W.cell? ⟨G, i * 15 + c, none⟩ = (lyC (lf i))[c]? := by
  rw [h.cellAt _ (by omega)]
  exact rl_get (s := 15) (fun _ => rfl) M hi hc
theorem ls_thereW {W : World} {base G uc M i : Nat} {lf : Nat → Ly} (h : W.ownsRow base 36 15 (.slice (some ⟨G, 0, none⟩) M uc) M (lyLs lf M)) (hi : i < M) : W.there G (i * 15) 15 := fun c hc => ⟨by rw [ls_cellW h hi hc, List.getElem?_eq_getElem (by show c < (lyC (lf i)).length; exact hc)]; rfl, h.frozenAt _⟩
theorem info_lyW : (Try.prog.info? 36).map (·.size) = some 15 := by kernel_rfl
theorem lyC_oneW (L : Ly) : (lyC L).toArray.all (·.oneCell') = true := by simp [lyC, Value.oneCell']
theorem netF_allW {W : World} {b : Nat} {nm : ByteArray} {H V C : Int} {u : Value} {F : Nat → Value} (h : W.rowIs b 26 5 F) : (((((W.setCell ⟨b, 0, none⟩ (.string nm)).setCell ⟨b, 1, none⟩ (.int .i64 H)).setCell ⟨b, 2, none⟩ (.int .i64 V)).setCell ⟨b, 3, none⟩ (.int .i64 C)).setCell ⟨b, 4, none⟩ u).rowIs b 26 5 (netF nm H V C u) := by
  refine (((((h.set 0 (.string nm)).set 1 (.int .i64 H)).set 2 (.int .i64 V)).set 3 (.int .i64 C)).set 4 u).congr fun q hq => ?_
  rcases (show q = 0 ∨ q = 1 ∨ q = 2 ∨ q = 3 ∨ q = 4 by omega) with rfl | rfl | rfl | rfl | rfl <;> rfl
/-- The network with another layer in a place. -/
abbrev wiN (N : Nt) (i : Nat) (L : Ly) (ua : Option Addr) (uc : Nat) : Nt := ⟨N.nm, N.h, N.v, N.c, ua, N.ml, uc, sn N.lf i L⟩
/-- Layers in a row of their own, their lists wherever they lie. -/
theorem wi_net {W : World} {base : Nat} {N : Nt} {i : Nat} {L : Ly} {ua : Option Addr} {uc : Nat} (hi : i < N.ml) (hm : N.ml ≤ 64) (hn : N.nm.size ≤ 9223372036854775807) (own : W.ownsRow base 36 15 (.slice ua N.ml uc) N.ml (lyLs (sn N.lf i L) N.ml)) (hl : ∀ j, j < N.ml → Lst W (sn N.lf i L j)) : NtW W (wiN N i L ua uc) := by
  obtain ⟨g, e, -, -, -, hc⟩ := own_cellsS own (by omega)
  refine ⟨fun j hj => ⟨g, 0, e, ?_, hl j hj⟩, by show N.ml ≤ _; omega, hn⟩
  have hj : j < N.ml := hj
  have key : ∀ c, c < 15 → W.cell? ⟨g, 0 + j * 15 + c, none⟩ = (lyC (sn N.lf i L j))[c]? := fun c hc' => by
    rw [Nat.zero_add, hc _ (by omega)]
    exact rl_get (s := 15) (fun _ => rfl) N.ml hj hc'
  exact ⟨key 0 (by decide), key 1 (by decide), key 2 (by decide), key 3 (by decide), key 4 (by decide), key 5 (by decide), key 6 (by decide), key 7 (by decide), key 8 (by decide), key 9 (by decide), key 10 (by decide), key 11 (by decide), key 12 (by decide), key 13 (by decide), key 14 (by decide)⟩
set_option maxHeartbeats 6400000 in
set_option maxRecDepth 100000 in
theorem with_any (N : Nt) (i : Nat) (hi : i < N.ml) (hm : N.ml ≤ 64) (L : Ly) (w : World) (hN : NtW w N) (hL : Lst w L) :
    Calls Try.prog 7 #[ntv N, .int .i64 i, lyv L] w fun e w' => ∃ ua uc, e = .returned (ntv (wiN N i L ua uc)) ∧ NtW w' (wiN N i L ua uc) ∧ Below w.heap.size w w' := by
  have HN := hid1 hN
  have HLL := hid1 hL
  clear hN hL
  obtain ⟨b, hb0⟩ : ∃ b, w.heap.size = b := ⟨_, rfl⟩
  have HB0 := hid1 hb0
  have HAP := hid1 (fun (ops : Array Oper) (rest : List Oper) (o : Oper) (a : Act) (Q : Exit → Act → World → Prop) (W : World) (hW : Below w.heap.size w W) (hgd : o.guard = none) (s x : Operand) (ho : o.op = .call { callee := .builtin .append, args := #[s, x], argTypes := #[24, 24] }) (hs : a.eval s = .slice none 0 0) (hx : a.eval x = .slice N.al N.ml N.cl) => app_clL (ops := ops) (rest := rest) (Q := Q) (w := W) hgd s x ho N hs hx (HN.out.keep hW) ⟨by omega, hm⟩)
  have HI := hid1 (And.intro hi hm)
  have ii0 : (0 : Int) ≤ (i : Int) := by omega
  have ii : (i : Int) < (N.ml : Int) := by omega
  have hMb : N.ml ≤ 1000000000000 := by omega
  clear hi hm
  go_enter Try.func7, Try.ntmps7
  go_upto_region 1 with fail
  refine gen_world (fun X => Below w.heap.size w X ∧ X.rowIs b 26 5 (netF N.nm N.h N.v N.c (.slice N.al N.ml N.cl)) ∧ X.rowIs (b + 1) 36 15 (lyf L) ∧ X.rowIs (b + 2) 26 5 (netF ⟨#[]⟩ 0 0 0 (.slice none 0 0)) ∧ b + 3 ≤ X.heap.size) ?gw ?_
  case gw =>
    subst hb0
    refine ⟨by repeat (first | (with_reducible exact Below.refl _ _) | (with_reducible refine bl_alloc ?_ _) | (with_reducible refine Below.drew ?_)), ((net_newF w N.nm N.h N.v N.c (.slice N.al N.ml N.cl) _).alloc _).alloc _, ?_, ?_, by simp⟩
    · have := (lyf_new (w.alloc (.cells #[.string N.nm, .int .i64 N.h, .int .i64 N.v, .int .i64 N.c, .slice N.al N.ml N.cl] 26)) L 36).alloc (.cells #[.string ⟨#[]⟩, .int .i64 0, .int .i64 0, .int .i64 0, .slice none 0 0] 26)
      simpa using this
    · have := net_newF ((w.alloc (.cells #[.string N.nm, .int .i64 N.h, .int .i64 N.v, .int .i64 N.c, .slice N.al N.ml N.cl] 26)).alloc (lyo L)) ⟨#[]⟩ 0 0 0 (.slice none 0 0) 26
      simpa using this
  rintro X ⟨BX, R0, R1, R2, zX⟩
  have HR0 := hid1 R0
  have HR1 := hid1 R1
  have HR2 := hid1 R2
  have n4 : X.cell? ⟨b, 4, none⟩ = some (.slice N.al N.ml N.cl) := R0.cell (i := 4) (by decide)
  have z4 := R0.frozen 4
  have HBX := hid1 BX
  clear R0 R1 R2 BX
  have HSZ := hid1 zX
  clear zX
  go_upto_region 2 with (at_builtin; refine HAP.out _ _ _ _ _ X HBX.out rfl _ _ rfl (by go_simp) (by go_simp) ?_; intro v1 y1 own1 bb1; obtain ⟨a1, d1, rfl⟩ := own_isP own1; have HO1 := hid1 own1; have HB1 := hid1 bb1; have R0 := World.rowIs.of_block HR0.out (bb1.block _ HR0.out.lt); have m4 : y1.cell? ⟨b, 4, none⟩ = some (.slice N.al N.ml N.cl) := R0.cell (i := 4) (by decide); have f4 := R0.frozen 4; clear own1 bb1 R0)
  refine gen_world (fun Y => Y.rowIs b 26 5 (netF N.nm N.h N.v N.c (.slice a1 N.ml d1)) ∧ Y.rowIs (b + 1) 36 15 (lyf L) ∧ Y.rowIs (b + 2) 26 5 (netF ⟨#[]⟩ 0 0 0 (.slice none 0 0)) ∧ Y.ownsRow (b + 3) 36 15 (.slice a1 N.ml d1) N.ml (lyLs N.lf N.ml) ∧ b + 3 ≤ Y.heap.size ∧ Below w.heap.size w Y) ?gw2 ?_
  case gw2 =>
    have hb := HB1.out
    have hs := HSZ.out
    refine ⟨?_, (World.rowIs.of_block HR1.out (hb.block _ HR1.out.lt)).setOther (by show b + 1 ≠ b; omega) _, (World.rowIs.of_block HR2.out (hb.block _ HR2.out.lt)).setOther (by show b + 2 ≠ b; omega) _, own_setD (HO1.out.mono hs) (by omega), by have := hb.size; simp; omega, bl_set (bl_step HBX.out hb) (by omega) _⟩
    refine ((World.rowIs.of_block HR0.out (hb.block _ HR0.out.lt)).set 4 _).congr fun i hi => ?_
    rcases (show i = 0 ∨ i = 1 ∨ i = 2 ∨ i = 3 ∨ i = 4 by omega) with rfl | rfl | rfl | rfl | rfl <;> rfl
  clear HO1 HB1 m4 f4 n4 z4 HR0 HR1 HR2 HBX HSZ
  rintro Y ⟨R0, R1, R2, OW, zY, BY⟩
  obtain ⟨G, rfl, -, -, -, -⟩ := own_cellsS OW (by have := HI.out; omega)
  have HST : Hid ((Y.setCells G (i * 15) (lyC L)).ownsRow (b + 3) 36 15 (.slice (some ⟨G, 0, none⟩) N.ml d1) N.ml (lyLs (sn N.lf i L) N.ml) ∧ Y.grownBy (Y.setCells G (i * 15) (lyC L)) (some G) ∧ b + 3 ≤ G) := hid1 (by
    obtain ⟨o1, o2⟩ := own_setW (lyC L) (i * 15) Y _ OW
    rw [ls_putW HI.out.1] at o1
    exact ⟨o1, o2, (OW.lt G rfl).1⟩)
  have HTH : Hid (Y.there G (i * 15) 15) := hid1 (ls_thereW OW HI.out.1)
  have n4 : Y.cell? ⟨b, 4, none⟩ = some (.slice (some ⟨G, 0, none⟩) N.ml d1) := R0.cell (i := 4) (by decide)
  obtain ⟨l0, l1, l2, l3, l4, l5, l6, l7, l8, l9, l10, l11, l12, l13, l14⟩ := lyf_cells R1
  have HR0 := hid1 R0
  have HR2 := hid1 R2
  have HBY := hid1 BY
  have HZY := hid1 zY
  clear R0 R1 R2 OW zY BY
  go_upto_region 3 with (refine wpList_store_mid rfl 36 _ _ rfl G (i * 15) (lyC L).toArray (by go_simp) (by go_simp; rfl) HTH.out info_lyW (lyC_oneW L) ?_; have hst := HST.out; clear HTH l0 l1 l2 l3 l4 l5 l6 l7 l8 l9 l10 l11 l12 l13 l14 n4)
  refine gen_world (fun Z => Z.rowIs b 26 5 (netF N.nm N.h N.v N.c (.slice (some ⟨G, 0, none⟩) N.ml d1)) ∧ Z.rowIs (b + 2) 26 5 (netF ⟨#[]⟩ 0 0 0 (.slice none 0 0)) ∧ Z.ownsRow (b + 3) 36 15 (.slice (some ⟨G, 0, none⟩) N.ml d1) N.ml (lyLs (sn N.lf i L) N.ml) ∧ Below w.heap.size w Z) ?gw3 ?_
  case gw3 =>
    obtain ⟨o1, o2, o3⟩ := hst
    have hl0 := HR0.out.lt
    have hl2 := HR2.out.lt
    exact ⟨World.rowIs.of_block HR0.out (o2.block b hl0 (by simp; omega)), World.rowIs.of_block HR2.out (o2.block (b + 2) hl2 (by simp; omega)), o1, gr_bel o2 HBY.out (fun q hq => by cases hq; omega)⟩
  clear hst HST HR0 HR2 HBY HZY
  rintro Z ⟨R0, R2, OW, BZ⟩
  have HOW := hid1 OW
  have HBZ := hid1 BZ
  have HR2 := hid1 R2
  have n0 : Z.cell? ⟨b, 0, none⟩ = some (.string N.nm) := R0.cell (i := 0) (by decide)
  have n1 : Z.cell? ⟨b, 1, none⟩ = some (.int .i64 N.h) := R0.cell (i := 1) (by decide)
  have n2 : Z.cell? ⟨b, 2, none⟩ = some (.int .i64 N.v) := R0.cell (i := 2) (by decide)
  have n3 : Z.cell? ⟨b, 3, none⟩ = some (.int .i64 N.c) := R0.cell (i := 3) (by decide)
  have n4 : Z.cell? ⟨b, 4, none⟩ = some (.slice (some ⟨G, 0, none⟩) N.ml d1) := R0.cell (i := 4) (by decide)
  have r0 : Z.cell? ⟨b + 1 + 1, 0, none⟩ = some (.string ⟨#[]⟩) := R2.cell (i := 0) (by decide)
  have r1 : Z.cell? ⟨b + 1 + 1, 1, none⟩ = some (.int .i64 0) := R2.cell (i := 1) (by decide)
  have r2 : Z.cell? ⟨b + 1 + 1, 2, none⟩ = some (.int .i64 0) := R2.cell (i := 2) (by decide)
  have r3 : Z.cell? ⟨b + 1 + 1, 3, none⟩ = some (.int .i64 0) := R2.cell (i := 3) (by decide)
  have r4 : Z.cell? ⟨b + 1 + 1, 4, none⟩ = some (.slice none 0 0) := R2.cell (i := 4) (by decide)
  have f0 : Z.frozen? ⟨b + 1 + 1, 0, none⟩ = false := R2.frozen 0
  have f1 : Z.frozen? ⟨b + 1 + 1, 1, none⟩ = false := R2.frozen 1
  have f2 : Z.frozen? ⟨b + 1 + 1, 2, none⟩ = false := R2.frozen 2
  have f3 : Z.frozen? ⟨b + 1 + 1, 3, none⟩ = false := R2.frozen 3
  have f4 : Z.frozen? ⟨b + 1 + 1, 4, none⟩ = false := R2.frozen 4
  clear R0 R2 OW BZ
  go_wp2_with fail
  refine bodyPost_ret (results_cell_row Try.results7 _ _ (b + 1 + 1) 26 _ (0, 0) _ (by go_simp) (row5 (netF_allW HR2.out)) Try.underlying26 rfl (by kernel_rfl)) rfl ?_
  have hb1 : w.heap.size ≤ b + 1 + 1 := by have := HB0.out; omega
  have hbz := bl_set (bl_set (bl_set (bl_set (bl_set HBZ.out hb1 (.string N.nm) (o := 0)) hb1 (.int .i64 N.h) (o := 1)) hb1 (.int .i64 N.v) (o := 2)) hb1 (.int .i64 N.c) (o := 3)) hb1 (.slice (some ⟨G, 0, none⟩) N.ml d1) (o := 4)
  refine ⟨some ⟨G, 0, none⟩, d1, rfl, wi_net (base := b + 3) HI.out.1 HI.out.2 HN.out.2.2 (own_setD (own_setD (own_setD (own_setD (own_setD HOW.out (by omega)) (by omega)) (by omega)) (by omega)) (by omega)) (fun j hj => ?_), hbz⟩
  unfold sn
  by_cases hji : j = i
  · rw [if_pos hji]
    exact HLL.out.keep hbz
  · rw [if_neg hji]
    obtain ⟨_, _, _, _, h⟩ := HN.out.1 j hj
    exact h.keep hbz
end Go.Proofs.Ytkfjgfijhaoliaa.Nn
/- PLAINBORDER: both traces. -/
namespace Go.Proofs.Ytkfjgfijhaoliaa.Nn
open Go.RowKit

theorem sz_el {N : Nt} (hz : chE N = 0) {i : Nat} (hi : i ≤ N.ml) : ((szN N i : Nat) : Int) = (sp N i).h * (sp N i).v * (sp N i).c := by
  obtain ⟨⟨⟨a1, a2⟩, ⟨a3, a4⟩, ⟨a5, a6⟩⟩, -⟩ := chk_prod (chk_sp hz i hi)
  unfold szN cN
  obtain ⟨H, eH⟩ := Int.eq_ofNat_of_zero_le (show 0 ≤ (sp N i).h by omega)
  obtain ⟨V, eV⟩ := Int.eq_ofNat_of_zero_le (show 0 ≤ (sp N i).v by omega)
  obtain ⟨C, eC⟩ := Int.eq_ofNat_of_zero_le (show 0 ≤ (sp N i).c by omega)
  rw [eH, eV, eC]
  push_cast
  rfl
abbrev StN (W : World) (N : Nt) (f : Nat → Int) (g : Nat) : Prop := StR W (some ⟨g, 0, none⟩) N.ml (fun j => (sp N (j + 1)).h) (fun j => (sp N (j + 1)).v) (fun j => (sp N (j + 1)).c) (fun j => szN N (j + 1)) (fun j => valN N (fun i => s8 (f i)) (j + 1))
theorem bo_trace {N : Nt} (hz : chE N = 0) (hcw : ∀ j, j < N.ml → (N.lf j).mw ≤ (N.lf j).cw) (ht : toN N ≤ 4194304) {m : Nat} (hsz : (m : Int) = N.h * N.v * N.c) (ao : Option Addr) (cap : Nat) (f : Nat → Int) (W : World) (hN : NtW W N) (hx : RB W ao m f) :
    Calls Try.prog 6 #[ntv N, .slice ao m cap] W fun e w' => ∃ g c, e = .returned (.tuple #[.slice (some ⟨g, 0, none⟩) N.ml c, .int .i64 0]) ∧ StN w' N f g ∧ Below W.heap.size W w' := by
  have hm : szN N 0 = m := by
    have := sz_el hz (Nat.zero_le N.ml)
    have h2 : ((szN N 0 : Nat) : Int) = N.h * N.v * N.c := this
    rw [← hsz] at h2
    exact Int.ofNat.inj h2
  subst hm
  refine (ptrace_all N hz hcw ht ao cap f (fun j hj => ?_) W hN hx).mono fun e w' h => ?_
  · obtain ⟨_, _, _, _, h1, h2⟩ := hx j hj
    exact ⟨h1, by omega⟩
  · obtain ⟨u, gl, cl, rfl, hT, hb⟩ := h
    obtain ⟨g, c, rfl, -, hS⟩ := hT.str (wh_parts (fl_all hz).1).2.2.1 (fun j hj => ⟨sz_one hz hcw hj, by
      have h1 := sz_el hz (show j + 1 ≤ N.ml by omega)
      have h2 := (el_sp hz (show j + 1 ≤ N.ml by omega)).2.2
      omega⟩)
    exact ⟨g, c, rfl, hS, hb⟩
theorem to_fits {N : Nt} (hz : chE N = 0) (hwo : woV N N.ml ≤ 4194304) : toN N ≤ 4194304 := by
  have := to_wo hz N.ml (Nat.le_refl _)
  unfold toN
  omega
theorem own_rb {W : World} {base k lc : Nat} {la : Option Addr} {f : Nat → Int} (h : W.ownsRow base 5 1 (.slice la k lc) k (u8L ((List.range k).map f))) (hf : ∀ j, 0 ≤ f j ∧ f j < 256) : RB W la k f := fun j hj => by
  obtain ⟨g, e, -, -, -, hc⟩ := own_cellsS h (by omega)
  refine ⟨g, 0, e, ?_, hf j⟩
  rw [Nat.zero_add, hc j (by omega)]
  simp [u8L, hj]
/-- The trace of the network whose border is laid out. -/
theorem bo_trace2 {N : Nt} {L : Ly} (hz : chE N = 0) (hL : N.lf 0 = L) (hk : L.kd = 1) (hcw : ∀ j, j < N.ml → (N.lf j).mw ≤ (N.lf j).cw) (hwo : woV N N.ml ≤ 4194304) {H1 V1 : Int} (hE : H1 = N.h + L.t + L.b ∧ V1 = N.v + L.l + L.q) {H V H' V' C m k : Nat} (eq : N.h = H ∧ N.v = V ∧ N.c = C ∧ H1 = H' ∧ V1 = V') (hm : m = H * V * C) (hb : (H' ≤ 4096 ∧ V' ≤ 4096) ∧ H' * V' * C ≤ 100000) (hkk : k = H' * V' * C) {base lc : Nat} {la ao ua : Option Addr} {uc : Nat} {f : Nat → Int} {W : World}
    (hN : NtW W (wiN ⟨N.nm, H1, V1, N.c, N.al, N.ml, N.cl, N.lf⟩ 0 (noB L) ua uc)) (hx : RB W ao m f) (own : W.ownsRow base 5 1 (.slice la k lc) k (u8L (byL f L.t L.l L.bd H V V' C k))) :
    Calls Try.prog 6 #[ntv (wiN ⟨N.nm, H1, V1, N.c, N.al, N.ml, N.cl, N.lf⟩ 0 (noB L) ua uc), .slice la k lc] W fun e w' => ∃ g c, e = .returned (.tuple #[.slice (some ⟨g, 0, none⟩) N.ml c, .int .i64 0]) ∧ StN w' N f g ∧ Below W.heap.size W w' := by
  subst hL
  obtain ⟨-, ⟨⟨a1, a2⟩, ⟨a3, a4⟩, a5, a6⟩, ⟨⟨b1, b2⟩, ⟨b3, b4⟩, ⟨b5, b6⟩, b7, b8⟩, d1, d2⟩ := bo_first hz hk
  obtain ⟨e1, e2, e3, e4, e5⟩ := eq
  have hB : Bo N (wiN ⟨N.nm, H1, V1, N.c, N.al, N.ml, N.cl, N.lf⟩ 0 (noB (N.lf 0)) ua uc) := bo_made hz hk hE.1 hE.2 (by omega) (by omega) (by
    rw [e4, e5, e3, ← Int.natCast_mul, ← Int.natCast_mul]
    have := hb.2
    omega) sn_eq (fun j hj => if_neg (by omega))
  have hzM := bo_ok hz hB
  have hfb : ∀ q, q < H * V * C → 0 ≤ f q ∧ f q < 256 := fun q hq => by
    obtain ⟨_, _, _, _, h⟩ := hx q (by omega)
    exact h
  refine (bo_trace (m := k) hzM (fun j hj => ?_) (by rw [bo_to hz hB]; exact to_fits hz hwo) ?_ la lc (byB f (N.lf 0).t (N.lf 0).l (N.lf 0).bd H V V' C) W hN (own_rb own (fun j => by_bd (by omega) hfb j))).mono fun e w' h => ?_
  · show (sn N.lf 0 (noB (N.lf 0)) j).mw ≤ (sn N.lf 0 (noB (N.lf 0)) j).cw
    unfold sn
    by_cases h0 : j = 0
    · subst h0
      rw [if_pos rfl]
      exact hcw 0 hj
    · rw [if_neg h0]
      exact hcw j hj
  · show (k : Int) = H1 * V1 * N.c
    rw [e4, e5, e3, ← Int.natCast_mul, ← Int.natCast_mul, hkk]
  · obtain ⟨g, c, rfl, hS, hb'⟩ := h
    refine ⟨g, c, rfl, ?_, hb'⟩
    refine StR.congr hS fun j hj => ?_
    refine bo_steps hz hB (x := fun i => s8 (f i)) (y := fun i => s8 (byB f (N.lf 0).t (N.lf 0).l (N.lf 0).bd H V V' C i)) ?_ j hj
    rw [show N.h.toNat = H by omega, show N.v.toNat = V by omega, show N.c.toNat = C by omega, show Int.toNat (Nt.h (wiN ⟨N.nm, H1, V1, N.c, N.al, N.ml, N.cl, N.lf⟩ 0 (noB (N.lf 0)) ua uc)) = H' by show H1.toNat = H'; omega, show Int.toNat (Nt.v (wiN ⟨N.nm, H1, V1, N.c, N.al, N.ml, N.cl, N.lf⟩ 0 (noB (N.lf 0)) ua uc)) = V' by show V1.toNat = V'; omega]
    exact by_laid d1 d2
end Go.Proofs.Ytkfjgfijhaoliaa.Nn
/- PLAINBORDER: the end of the walk. -/
namespace Go.Proofs.Ytkfjgfijhaoliaa.Nn
open Go.RowKit

/-- What stands in memory when the border is to be laid out. -/
def PbS (W w : World) (N : Nt) (L : Ly) (b g5 : Nat) (H1 V1 : Int) : Prop := W.rowIs b 26 5 (netF N.nm N.h N.v N.c (.slice N.al N.ml N.cl)) ∧ W.rowIs g5 36 15 (lyf L) ∧ W.heap[g5 + 1]? = some (.cells #[.int .i64 L.r, .int .i64 L.s, .int .i64 L.sy, .int .i64 L.sx, .int .i64 L.t, .int .i64 L.l, .int .i64 L.b, .int .i64 L.q] 31) ∧ W.heap[g5 + 2]? = some (.cells #[.int .i64 N.h, .int .i64 N.v, .int .i64 N.c] 23) ∧ W.rowIs (g5 + 3) 26 5 (netF N.nm H1 V1 N.c (.slice N.al N.ml N.cl)) ∧ Below w.heap.size w W ∧ w.heap.size < g5 ∧ g5 + 3 < W.heap.size
theorem heap_ne {W : World} {c j k : Nat} {u : Value} (h : k ≠ c) : (W.setCell ⟨c, j, none⟩ u).heap[k]? = W.heap[k]? := Below.heap_setCell _ _ _ _ h
theorem PbS.shape {W w : World} {N : Nt} {L : Ly} {b g5 : Nat} {H0 V0 H1 V1 : Int} (h : PbS W w N L b g5 H0 V0) (hb : w.heap.size = b) : PbS (((W.setCell ⟨g5 + 3, 1, none⟩ (.int .i64 H1)).setCell ⟨g5 + 3, 2, none⟩ (.int .i64 V1)).setCell ⟨g5 + 3, 3, none⟩ (.int .i64 N.c)) w N L b g5 H1 V1 := by
  obtain ⟨a1, a2, a3, a4, a5, a6, a7, a8⟩ := h
  refine ⟨((a1.setOther (by show b ≠ g5 + 3; omega) _).setOther (by show b ≠ g5 + 3; omega) _).setOther (by show b ≠ g5 + 3; omega) _, ((a2.setOther (by show g5 ≠ g5 + 3; omega) _).setOther (by show g5 ≠ g5 + 3; omega) _).setOther (by show g5 ≠ g5 + 3; omega) _, ?_, ?_, ?_, bl_set (bl_set (bl_set a6 (by omega) _) (by omega) _) (by omega) _, a7, by simpa using a8⟩
  · rw [heap_ne (by omega), heap_ne (by omega), heap_ne (by omega)]; exact a3
  · rw [heap_ne (by omega), heap_ne (by omega), heap_ne (by omega)]; exact a4
  · refine (((a5.set 1 (.int .i64 H1)).set 2 (.int .i64 V1)).set 3 (.int .i64 N.c)).congr fun q hq => ?_
    rcases (show q = 0 ∨ q = 1 ∨ q = 2 ∨ q = 3 ∨ q = 4 by omega) with rfl | rfl | rfl | rfl | rfl <;> rfl
theorem PbS.keep {W X w : World} {N : Nt} {L : Ly} {b g5 : Nat} {H1 V1 : Int} (h : PbS W w N L b g5 H1 V1) (hb : Below W.heap.size W X) : PbS X w N L b g5 H1 V1 := by
  obtain ⟨a1, a2, a3, a4, a5, a6, a7, a8⟩ := h
  exact ⟨World.rowIs.of_block a1 (hb.block _ a1.lt), World.rowIs.of_block a2 (hb.block _ a2.lt), by rw [hb.block _ (by omega)]; exact a3, by rw [hb.block _ (by omega)]; exact a4, World.rowIs.of_block a5 (hb.block _ a5.lt), bl_step a6 hb, a7, by have := hb.size; omega⟩
/-- What stands there at the end. -/
def PbE (W w : World) (N : Nt) (L : Ly) (b g5 : Nat) (H1 V1 : Int) : Prop := W.rowIs b 26 5 (netF N.nm N.h N.v N.c (.slice N.al N.ml N.cl)) ∧ W.rowIs g5 36 15 (lyf L) ∧ W.rowIs (g5 + 3) 26 5 (netF N.nm H1 V1 N.c (.slice N.al N.ml N.cl)) ∧ Below w.heap.size w W
theorem PbE.keep {W X w : World} {N : Nt} {L : Ly} {b g5 : Nat} {H1 V1 : Int} (h : PbE W w N L b g5 H1 V1) (hb : Below W.heap.size W X) : PbE X w N L b g5 H1 V1 := by
  obtain ⟨a1, a2, a3, a4⟩ := h
  exact ⟨World.rowIs.of_block a1 (hb.block _ a1.lt), World.rowIs.of_block a2 (hb.block _ a2.lt), World.rowIs.of_block a3 (hb.block _ a3.lt), bl_step a4 hb⟩
theorem PbS.bare {W w : World} {N : Nt} {L : Ly} {b g5 : Nat} {H1 V1 : Int} (h : PbS W w N L b g5 H1 V1) (hb : w.heap.size = b) : PbE (((((W.setCell ⟨g5, 7, none⟩ (.int .i64 0)).setCell ⟨g5, 8, none⟩ (.int .i64 0)).setCell ⟨g5, 9, none⟩ (.int .i64 0)).setCell ⟨g5, 10, none⟩ (.int .i64 0)).setCell ⟨g5, 11, none⟩ (.int .i64 0)) w N (noB L) b g5 H1 V1 := by
  obtain ⟨a1, a2, -, -, a5, a6, a7, a8⟩ := h
  refine ⟨((((a1.setOther (by show b ≠ g5; omega) _).setOther (by show b ≠ g5; omega) _).setOther (by show b ≠ g5; omega) _).setOther (by show b ≠ g5; omega) _).setOther (by show b ≠ g5; omega) _, ?_, ((((a5.setOther (by show g5 + 3 ≠ g5; omega) _).setOther (by show g5 + 3 ≠ g5; omega) _).setOther (by show g5 + 3 ≠ g5; omega) _).setOther (by show g5 + 3 ≠ g5; omega) _).setOther (by show g5 + 3 ≠ g5; omega) _, bl_set (bl_set (bl_set (bl_set (bl_set a6 (by omega) _) (by omega) _) (by omega) _) (by omega) _) (by omega) _⟩
  refine (((((a2.set 7 (.int .i64 0)).set 8 (.int .i64 0)).set 9 (.int .i64 0)).set 10 (.int .i64 0)).set 11 (.int .i64 0)).congr fun i hi => ?_
  rcases (show i = 0 ∨ i = 1 ∨ i = 2 ∨ i = 3 ∨ i = 4 ∨ i = 5 ∨ i = 6 ∨ i = 7 ∨ i = 8 ∨ i = 9 ∨ i = 10 ∨ i = 11 ∨ i = 12 ∨ i = 13 ∨ i = 14 by omega) with rfl | rfl | rfl | rfl | rfl | rfl | rfl | rfl | rfl | rfl | rfl | rfl | rfl | rfl | rfl <;> rfl
noncomputable def pbT : Code := (Try.f3.body.bind (fromP (isReg 23))).getD .skip
attribute [local go_sem ↓] Go.wp_at_zero Go.wp_at_succ
set_option maxHeartbeats 12800000 in
set_option maxRecDepth 100000 in
theorem bo_tail (u0 u3 u4 u6 u7 u10 u11 u12 u13 u14 u15 u16 u17 u18 u19 u20 u21 u22 u23 u24 u25 u26 u27 u28 u29 u30 u31 u32 u33 u34 u35 u36 u37 u38 u39 u40 u41 u42 u43 u44 u45 u46 u47 u48 u49 u50 u51 u52 u53 u54 u55 u56 u57 u58 u59 u60 u61 u62 u63 u64 u65 u66 u67 u68 u69 u70 u71 u72 u73 u74 u75 u76 u77 u78 u79 u80 u81 u82 u83 u84 u85 u86 u87 u88 u89 u90 u91 u92 u93 u94 u95 u96 u97 u98 u99 u100 u101 u102 u103 u104 u105 u106 u107 u108 u109 u110 u111 u112 u113 u114 u115 u116 u117 u118 u119 u120 u121 u122 u123 u124 u125 u126 u127 u128 u129 u130 u131 u132 u133 u134 u135 u136 u137 u138 u139 u140 u141 u142 u143 u144 u145 u146 u147 u148 u149 u150 u151 u152 u153 u154 u155 u156 u157 u158 u159 u160 u161 u162 u163 u164 u165 u166 u167 u168 u169 u170 u171 u172 u173 u174 u175 u176 u177 u178 u179 u180 u181 u182 u183 u184 u185 u186 u187 u188 : Value) (N : Nt) (L : Ly) (b g5 m cap k lc base : Nat) (ao la : Option Addr) (f : Nat → Int) (H1 V1 : Int) (H V H' V' C : Nat) (w W6 : World) (Q : Exit → Act → World → Prop) (hb0 : w.heap.size = b) (HP : Hid (PbS W6 w N L b g5 H1 V1)) (HO : Hid (W6.ownsRow base 5 1 (.slice la k lc) k (u8L (byL f L.t L.l L.bd H V V' C k)))) (hbase : g5 < base) (HN : Hid (NtW w N)) (HX : Hid (RB w ao m f)) (HCW : Hid (∀ j, j < N.ml → (N.lf j).mw ≤ (N.lf j).cw)) (HZ : Hid (chE N = 0)) (HL : Hid (N.lf 0 = L)) (HK : Hid (L.kd = 1)) (HWO : Hid (woV N N.ml ≤ 4194304)) (HSZ : Hid ((m : Int) = N.h * N.v * N.c)) (HHE : Hid (H1 = N.h + L.t + L.b ∧ V1 = N.v + L.l + L.q)) (HEQ : Hid (N.h = H ∧ N.v = V ∧ N.c = C ∧ H1 = H' ∧ V1 = V')) (HM : Hid (m = H * V * C)) (HB : Hid ((H' ≤ 4096 ∧ V' ≤ 4096) ∧ H' * V' * C ≤ 100000)) (HKK : Hid (k = H' * V' * C))
    (hQ : Hid (∀ (X' : World) (v13 v14 v15 v16 v155 v156 v157 v158 v159 v160 v161 v162 v163 v164 v165 v166 v167 v168 v169 v170 v171 v172 v173 v174 v175 v176 v177 v178 v179 v180 v181 v182 v183 v184 v185 v186 v187 v188 : Value), Below w.heap.size w X' → Q .ret ⟨#[u0, .slice ao m cap, .pointer (some ⟨b, 0, none⟩), u3, .bool true, .pointer (some ⟨g5, 0, none⟩), u6, u7, .pointer (some ⟨(g5 + 3), 0, none⟩), .slice la k lc, u10, u11, u12, v13, v14, v15, v16, u17, u18, u19, u20, u21, u22, u23, u24, u25, u26, u27, u28, u29, u30, u31, u32, u33, u34, u35, u36, u37, u38, u39, u40, u41, u42, u43, u44, u45, u46, u47, u48, u49, u50, u51, u52, u53, u54, u55, u56, u57, u58, u59, u60, u61, u62, u63, u64, u65, u66, u67, u68, u69, u70, u71, u72, u73, u74, u75, u76, u77, u78, u79, u80, u81, u82, u83, u84, u85, u86, u87, u88, u89, u90, u91, u92, u93, u94, u95, u96, u97, u98, u99, u100, u101, u102, u103, u104, u105, u106, u107, u108, u109, u110, u111, u112, u113, u114, u115, u116, u117, u118, u119, u120, u121, u122, u123, u124, u125, u126, u127, u128, u129, u130, u131, u132, u133, u134, u135, u136, u137, u138, u139, u140, u141, u142, u143, u144, u145, u146, u147, u148, u149, u150, u151, u152, u153, u154, v155, v156, v157, v158, v159, v160, v161, v162, v163, v164, v165, v166, v167, v168, v169, v170, v171, v172, v173, v174, v175, v176, v177, v178, v179, v180, v181, v182, v183, v184, v185, v186, v187, v188], []⟩ X')) :
    Code.wp Try.prog pbT Q ⟨#[u0, .slice ao m cap, .pointer (some ⟨b, 0, none⟩), u3, u4, .pointer (some ⟨g5, 0, none⟩), u6, u7, .pointer (some ⟨(g5 + 3), 0, none⟩), .slice la k lc, u10, u11, u12, u13, u14, u15, u16, u17, u18, u19, u20, u21, u22, u23, u24, u25, u26, u27, u28, u29, u30, u31, u32, u33, u34, u35, u36, u37, u38, u39, u40, u41, u42, u43, u44, u45, u46, u47, u48, u49, u50, u51, u52, u53, u54, u55, u56, u57, u58, u59, u60, u61, u62, u63, u64, u65, u66, u67, u68, u69, u70, u71, u72, u73, u74, u75, u76, u77, u78, u79, u80, u81, u82, u83, u84, u85, u86, u87, u88, u89, u90, u91, u92, u93, u94, u95, u96, u97, u98, u99, u100, u101, u102, u103, u104, u105, u106, u107, u108, u109, u110, u111, u112, u113, u114, u115, u116, u117, u118, u119, u120, u121, u122, u123, u124, u125, u126, u127, u128, u129, u130, u131, u132, u133, u134, u135, u136, u137, u138, u139, u140, u141, u142, u143, u144, u145, u146, u147, u148, u149, u150, u151, u152, u153, u154, u155, u156, u157, u158, u159, u160, u161, u162, u163, u164, u165, u166, u167, u168, u169, u170, u171, u172, u173, u174, u175, u176, u177, u178, u179, u180, u181, u182, u183, u184, u185, u186, u187, u188], []⟩ W6 := by
  conv => arg 2; whnf
  have R5 := HP.out.2.1
  have l7 : W6.cell? ⟨g5, 7, none⟩ = some (.int .i64 L.t) := R5.cell (i := 7) (by decide)
  have l8 : W6.cell? ⟨g5, 8, none⟩ = some (.int .i64 L.l) := R5.cell (i := 8) (by decide)
  have l9 : W6.cell? ⟨g5, 9, none⟩ = some (.int .i64 L.b) := R5.cell (i := 9) (by decide)
  have l10 : W6.cell? ⟨g5, 10, none⟩ = some (.int .i64 L.q) := R5.cell (i := 10) (by decide)
  have l11 : W6.cell? ⟨g5, 11, none⟩ = some (.int .i64 L.bd) := R5.cell (i := 11) (by decide)
  have z7 : W6.frozen? ⟨g5, 7, none⟩ = false := R5.frozen 7
  have z8 : W6.frozen? ⟨g5, 8, none⟩ = false := R5.frozen 8
  have z9 : W6.frozen? ⟨g5, 9, none⟩ = false := R5.frozen 9
  have z10 : W6.frozen? ⟨g5, 10, none⟩ = false := R5.frozen 10
  have z11 : W6.frozen? ⟨g5, 11, none⟩ = false := R5.frozen 11
  clear R5
  go_upto_region 28 with fail
  refine gen_world (fun Z => PbE Z w N (noB L) b g5 H1 V1 ∧ Z.ownsRow base 5 1 (.slice la k lc) k (u8L (byL f L.t L.l L.bd H V V' C k))) ⟨HP.out.bare hb0, own_setD (own_setD (own_setD (own_setD (own_setD HO.out hbase) hbase) hbase) hbase) hbase⟩ ?_
  clear l7 l8 l9 l10 l11 z7 z8 z9 z10 z11 HP HO
  rintro Z ⟨PZ, OZ⟩
  have HPZ := hid1 PZ
  have HOZ := hid1 OZ
  have CT := hid1 (bo_trace HZ.out HCW.out (to_fits HZ.out HWO.out) HSZ.out ao cap f Z (HN.out.keep PZ.2.2.2) (HX.out.keep PZ.2.2.2))
  have n0 : Z.cell? ⟨b, 0, none⟩ = some (.string N.nm) := PZ.1.cell (i := 0) (by decide)
  have n1 : Z.cell? ⟨b, 1, none⟩ = some (.int .i64 N.h) := PZ.1.cell (i := 1) (by decide)
  have n2 : Z.cell? ⟨b, 2, none⟩ = some (.int .i64 N.v) := PZ.1.cell (i := 2) (by decide)
  have n3 : Z.cell? ⟨b, 3, none⟩ = some (.int .i64 N.c) := PZ.1.cell (i := 3) (by decide)
  have n4 : Z.cell? ⟨b, 4, none⟩ = some (.slice N.al N.ml N.cl) := PZ.1.cell (i := 4) (by decide)
  clear PZ OZ
  go_wp2_with fail
  refine CT.out.mono ?_
  rintro e y1 ⟨g1, c1, rfl, S1, b1⟩
  clear CT n0 n1 n2 n3 n4
  have P1 := HPZ.out.keep b1
  have HP1 := hid1 P1
  have HS1 := hid1 S1
  have HO1 := hid1 (own_bl HOZ.out b1)
  have CW : Hid (Calls Try.prog 7 #[ntv ⟨N.nm, H1, V1, N.c, N.al, N.ml, N.cl, N.lf⟩, .int .i64 0, lyv (noB L)] y1 fun e w' => ∃ ua uc, e = .returned (ntv (wiN ⟨N.nm, H1, V1, N.c, N.al, N.ml, N.cl, N.lf⟩ 0 (noB L) ua uc)) ∧ NtW w' (wiN ⟨N.nm, H1, V1, N.c, N.al, N.ml, N.cl, N.lf⟩ 0 (noB L) ua uc) ∧ Below y1.heap.size y1 w') := hid1 (by
    have hm := (wh_parts (fl_all HZ.out).1).2.2
    have h1 := HN.out.keep P1.2.2.2
    obtain ⟨_, _, _, _, hls⟩ := h1.1 0 hm.1
    rw [HL.out] at hls
    exact with_any ⟨N.nm, H1, V1, N.c, N.al, N.ml, N.cl, N.lf⟩ 0 hm.1 hm.2 (noB L) y1 ⟨h1.1, h1.2⟩ hls)
  have n0 : y1.cell? ⟨g5 + 3, 0, none⟩ = some (.string N.nm) := P1.2.2.1.cell (i := 0) (by decide)
  have n1 : y1.cell? ⟨g5 + 3, 1, none⟩ = some (.int .i64 H1) := P1.2.2.1.cell (i := 1) (by decide)
  have n2 : y1.cell? ⟨g5 + 3, 2, none⟩ = some (.int .i64 V1) := P1.2.2.1.cell (i := 2) (by decide)
  have n3 : y1.cell? ⟨g5 + 3, 3, none⟩ = some (.int .i64 N.c) := P1.2.2.1.cell (i := 3) (by decide)
  have n4 : y1.cell? ⟨g5 + 3, 4, none⟩ = some (.slice N.al N.ml N.cl) := P1.2.2.1.cell (i := 4) (by decide)
  have l0 : y1.cell? ⟨g5, 0, none⟩ = some (.int .i64 L.kd) := P1.2.1.cell (i := 0) (by decide)
  have l1 : y1.cell? ⟨g5, 1, none⟩ = some (.int .i64 L.wt) := P1.2.1.cell (i := 1) (by decide)
  have l2 : y1.cell? ⟨g5, 2, none⟩ = some (.int .i64 L.k) := P1.2.1.cell (i := 2) (by decide)
  have l3 : y1.cell? ⟨g5, 3, none⟩ = some (.int .i64 L.r) := P1.2.1.cell (i := 3) (by decide)
  have l4 : y1.cell? ⟨g5, 4, none⟩ = some (.int .i64 L.s) := P1.2.1.cell (i := 4) (by decide)
  have l5 : y1.cell? ⟨g5, 5, none⟩ = some (.int .i64 L.sy) := P1.2.1.cell (i := 5) (by decide)
  have l6 : y1.cell? ⟨g5, 6, none⟩ = some (.int .i64 L.sx) := P1.2.1.cell (i := 6) (by decide)
  have l7 : y1.cell? ⟨g5, 7, none⟩ = some (.int .i64 0) := P1.2.1.cell (i := 7) (by decide)
  have l8 : y1.cell? ⟨g5, 8, none⟩ = some (.int .i64 0) := P1.2.1.cell (i := 8) (by decide)
  have l9 : y1.cell? ⟨g5, 9, none⟩ = some (.int .i64 0) := P1.2.1.cell (i := 9) (by decide)
  have l10 : y1.cell? ⟨g5, 10, none⟩ = some (.int .i64 0) := P1.2.1.cell (i := 10) (by decide)
  have l11 : y1.cell? ⟨g5, 11, none⟩ = some (.int .i64 0) := P1.2.1.cell (i := 11) (by decide)
  have l12 : y1.cell? ⟨g5, 12, none⟩ = some (.slice L.aw L.mw L.cw) := P1.2.1.cell (i := 12) (by decide)
  have l13 : y1.cell? ⟨g5, 13, none⟩ = some (.slice L.an L.mn L.cn) := P1.2.1.cell (i := 13) (by decide)
  have l14 : y1.cell? ⟨g5, 14, none⟩ = some (.slice L.ab L.mb L.cb) := P1.2.1.cell (i := 14) (by decide)
  clear P1 S1 b1 HPZ HOZ
  dsimp only [ntv, lyv, noB, wiN] at CW
  go_wp2_with fail
  refine CW.out.mono ?_
  rintro e y2 ⟨ua, uc, rfl, NW, b2⟩
  have CT := hid1 (bo_trace2 HZ.out HL.out HK.out HCW.out HWO.out HHE.out HEQ.out HM.out HB.out HKK.out NW ((HX.out.keep HP1.out.2.2.2).keep b2) (own_bl HO1.out b2))
  have HS2 := hid1 (HS1.out.keep b2)
  have HB2 := hid1 (bl_step HP1.out.2.2.2 b2)
  clear NW b2 CW n0 n1 n2 n3 n4 l0 l1 l2 l3 l4 l5 l6 l7 l8 l9 l10 l11 l12 l13 l14 HP1 HO1 HS1
  dsimp only [ntv, lyv, noB, wiN] at CT
  go_wp2_with fail
  refine CT.out.mono ?_
  rintro e y3 ⟨g2, c2, rfl, S3, b3⟩
  have hml : N.ml ≤ 9223372036854775807 := HN.out.2.1
  have CS := hid1 (steps_same N.ml _ _ _ _ _ (some ⟨g1, 0, none⟩) (some ⟨g2, 0, none⟩) c1 c2 y3 hml (HS2.out.keep b3) S3)
  have HB3 := hid1 (bl_step HB2.out b3)
  clear S3 b3 CT HS2 HB2 hml
  go_wp2_with fail
  refine CS.out.mono ?_
  rintro e y4 ⟨rfl, b4⟩
  have HB4 := hid1 (bl_step HB3.out b4)
  clear b4 CS HB3
  go_wp2_with fail
  exact hQ.out _ _ _ _ _ _ _ _ _ _ _ _ _ _ _ _ _ _ _ _ _ _ _ _ _ _ _ _ _ _ _ _ _ _ _ _ _ _ _ HB4.out
end Go.Proofs.Ytkfjgfijhaoliaa.Nn
/- PLAINBORDER: the walk. -/
namespace Go.Proofs.Ytkfjgfijhaoliaa.Nn
open Go.RowKit

attribute [local go_sem ↓] Go.wp_at_zero Go.wp_at_succ
set_option maxHeartbeats 12800000 in
set_option maxRecDepth 100000 in
theorem plainBorder_any (N : Nt) (ao : Option Addr) (m cap : Nat) (f : Nat → Int) (w : World) (hN : NtW w N) (hcw : ∀ j, j < N.ml → (N.lf j).mw ≤ (N.lf j).cw) (hx : RB w ao m f) :
    Calls Try.prog 3 #[ntv N, .slice ao m cap] w fun e w' => e = .returned (.bool true) ∧ Below w.heap.size w w' := by
  have HN := hid1 hN
  have HX := hid1 hx
  have HCW := hid1 hcw
  clear hN hx hcw
  obtain ⟨b, hb0⟩ : ∃ b, w.heap.size = b := ⟨_, rfl⟩
  go_enter Try.func3, Try.ntmps3
  go_upto_region 1 with fail
  refine gen_world (fun X => X.rowIs b 26 5 (netF N.nm N.h N.v N.c (.slice N.al N.ml N.cl)) ∧ Below w.heap.size w X) ⟨by rw [← hb0]; exact net_newF _ _ _ _ _ _ _, by repeat (first | (with_reducible exact Below.refl _ _) | (with_reducible refine bl_alloc ?_ _) | (with_reducible refine Below.drew ?_) | (with_reducible refine bl_drewN ?_ _) | (with_reducible refine bl_set ?_ (by omega) _) | (with_reducible refine bl_step ?_ (by assumption)))⟩ ?_
  rintro X0 ⟨R0, B0⟩
  have HR0 := hid1 R0
  have HB0 := hid1 B0
  clear R0 B0
  go_wp2_with fail
  refine (begun6_any X0).mono ?_
  rintro e X1 ⟨rfl, b1⟩
  have R1 := World.rowIs.of_block HR0.out (b1.block _ HR0.out.lt)
  have HR1 := hid1 R1
  have HB1 := hid1 (bl_step HB0.out b1)
  have n0 : X1.cell? ⟨b, 0, none⟩ = some (.string N.nm) := R1.cell (i := 0) (by decide)
  have n1 : X1.cell? ⟨b, 1, none⟩ = some (.int .i64 N.h) := R1.cell (i := 1) (by decide)
  have n2 : X1.cell? ⟨b, 2, none⟩ = some (.int .i64 N.v) := R1.cell (i := 2) (by decide)
  have n3 : X1.cell? ⟨b, 3, none⟩ = some (.int .i64 N.c) := R1.cell (i := 3) (by decide)
  have n4 : X1.cell? ⟨b, 4, none⟩ = some (.slice N.al N.ml N.cl) := R1.cell (i := 4) (by decide)
  have CF := hid1 (fits6_any N ao m cap X1 (HN.out.keep HB1.out))
  clear R1 b1 HR0 HB0
  go_wp2_with fail
  refine CF.out.mono ?_
  rintro e X2 ⟨bo, rfl, hbo, b2⟩
  have HBO := hid1 hbo
  have HR2 := hid1 (World.rowIs.of_block HR1.out (b2.block _ HR1.out.lt))
  have HB2 := hid1 (bl_step HB1.out b2)
  clear n0 n1 n2 n3 n4 CF hbo b2 HR1 HB1
  cases bo with
  | false =>
    go_wp2_with fail
    refine (begun6_any X2).mono ?_
    rintro e X3 ⟨rfl, b3⟩
    have HB3 := hid1 (bl_step HB2.out b3)
    clear b3
    go_wp2_with fail
    go_ret
    exact ⟨rfl, HB3.out⟩
  | true =>
    have HF := hid1 (HBO.out.1 rfl)
    clear HBO
    obtain ⟨hz, hsz, hwo⟩ := HF.out
    have HM1 := hid1 (wh_parts (fl_all hz).1).2.2
    have HZ := hid1 hz
    have HSZ := hid1 hsz
    have HWO := hid1 hwo
    clear hz hsz hwo HF
    obtain ⟨g, o, e, LC, LS⟩ := (HN.out.keep HB2.out).1 0 HM1.out.1
    rw [Nat.zero_mul, Nat.add_zero] at LC
    obtain ⟨L, hL⟩ : ∃ L, N.lf 0 = L := ⟨_, rfl⟩
    rw [hL] at LC LS
    have HL := hid1 hL
    clear hL LS
    have n4 : X2.cell? ⟨b, 4, none⟩ = some (.slice (some ⟨g, o, none⟩) N.ml N.cl) := by rw [← e]; exact HR2.out.cell (i := 4) (by decide)
    clear e
    have im : (0 : Int) < (N.ml : Int) := by have := HM1.out; omega
    have im2 : 0 < N.ml := HM1.out.1
    obtain ⟨c0, c1, c2, c3, c4, c5, c6, c7, c8, c9, c10, c11, c12, c13, c14⟩ := LC
    obtain ⟨g5, hg5⟩ : ∃ g5, X2.heap.size = g5 := ⟨_, rfl⟩
    go_upto_region 4 with fail
    refine gen_world (fun X => X.rowIs b 26 5 (netF N.nm N.h N.v N.c (.slice N.al N.ml N.cl)) ∧ X.rowIs g5 36 15 (lyf L) ∧ X.heap.size = g5 + 1 ∧ Below w.heap.size w X ∧ w.heap.size < g5) ⟨World.rowIs.of_block HR2.out (old_block _ _ HR2.out.lt), by rw [← hg5]; exact lyf_new X2 L _, by simp [hg5], bl_alloc HB2.out _, by have := HR2.out.lt; omega⟩ ?_
    clear c0 c1 c2 c3 c4 c5 c6 c7 c8 c9 c10 c11 c12 c13 c14 n4 hg5 HR2 HB2
    rintro X3 ⟨R0, R5, z3, B3, hw5⟩
    have HR0 := hid1 R0
    have HR5 := hid1 R5
    have HB3 := hid1 B3
    have HW5 := hid1 hw5
    have l3 : X3.cell? ⟨g5, 3, none⟩ = some (.int .i64 L.r) := R5.cell (i := 3) (by decide)
    have l4 : X3.cell? ⟨g5, 4, none⟩ = some (.int .i64 L.s) := R5.cell (i := 4) (by decide)
    have l5 : X3.cell? ⟨g5, 5, none⟩ = some (.int .i64 L.sy) := R5.cell (i := 5) (by decide)
    have l6 : X3.cell? ⟨g5, 6, none⟩ = some (.int .i64 L.sx) := R5.cell (i := 6) (by decide)
    have l7 : X3.cell? ⟨g5, 7, none⟩ = some (.int .i64 L.t) := R5.cell (i := 7) (by decide)
    have l8 : X3.cell? ⟨g5, 8, none⟩ = some (.int .i64 L.l) := R5.cell (i := 8) (by decide)
    have l9 : X3.cell? ⟨g5, 9, none⟩ = some (.int .i64 L.b) := R5.cell (i := 9) (by decide)
    have l10 : X3.cell? ⟨g5, 10, none⟩ = some (.int .i64 L.q) := R5.cell (i := 10) (by decide)
    have n0 : X3.cell? ⟨b, 0, none⟩ = some (.string N.nm) := R0.cell (i := 0) (by decide)
    have n1 : X3.cell? ⟨b, 1, none⟩ = some (.int .i64 N.h) := R0.cell (i := 1) (by decide)
    have n2 : X3.cell? ⟨b, 2, none⟩ = some (.int .i64 N.v) := R0.cell (i := 2) (by decide)
    have n3 : X3.cell? ⟨b, 3, none⟩ = some (.int .i64 N.c) := R0.cell (i := 3) (by decide)
    have n4 : X3.cell? ⟨b, 4, none⟩ = some (.slice N.al N.ml N.cl) := R0.cell (i := 4) (by decide)
    have lb : b < X3.heap.size := R0.lt
    have lg : g5 < X3.heap.size := R5.lt
    have lb1 : b < g5 + 1 := by omega
    have lb2 : b < g5 + 1 + 1 := by omega
    have lb3 : b < g5 + 2 := by omega
    have lbn : ¬ b = g5 + 1 := by omega
    have lbm : ¬ b = g5 + 1 + 1 := by omega
    clear R0 R5 B3 hw5
    go_upto_region 7 with fail
    refine gen_world (fun X => PbS X w N L b g5 N.h N.v) ?gw7 ?_
    case gw7 =>
      refine ⟨World.rowIs.of_block HR0.out ?_, World.rowIs.of_block HR5.out ?_, ?_, ?_, ?_, bl_alloc (bl_alloc (bl_alloc HB3.out _) _) _, HW5.out, by simp; omega⟩
      · rw [old_block _ _ (by simp; omega), old_block _ _ (by simp; omega), old_block _ _ lb]
      · rw [old_block _ _ (by simp; omega), old_block _ _ (by simp; omega), old_block _ _ lg]
      · exact old_at (old_at (new_at z3 _) _) _
      · exact old_at (new_at (by simp [z3]) _) _
      · have hs : ((X3.alloc (.cells #[.int .i64 L.r, .int .i64 L.s, .int .i64 L.sy, .int .i64 L.sx, .int .i64 L.t, .int .i64 L.l, .int .i64 L.b, .int .i64 L.q] 31)).alloc (.cells #[.int .i64 N.h, .int .i64 N.v, .int .i64 N.c] 23)).heap.size = g5 + 3 := by simp [z3]
        rw [← hs]
        exact net_newF _ _ _ _ _ _ _
    clear l3 l4 l5 l6 l7 l8 l9 l10 n0 n1 n2 n3 n4 lb lg lb1 lb2 lb3 lbn lbm z3 HR0 HR5 HB3 HW5
    rintro X4 P4
    obtain ⟨A1, wA⟩ : ∃ A, IntKind.i64.wrap (N.h + L.t) = A := ⟨_, rfl⟩
    obtain ⟨H1, wH⟩ : ∃ A, IntKind.i64.wrap (A1 + L.b) = A := ⟨_, rfl⟩
    obtain ⟨A2, wB⟩ : ∃ A, IntKind.i64.wrap (N.v + L.l) = A := ⟨_, rfl⟩
    obtain ⟨V1, wV⟩ : ∃ A, IntKind.i64.wrap (A2 + L.q) = A := ⟨_, rfl⟩
    have HWW := hid1 (And.intro wA (And.intro wH (And.intro wB wV)))
    have a4 := bcl P4.2.2.1 (j := 4) rfl
    have a5 := bcl P4.2.2.1 (j := 5) rfl
    have a6 := bcl P4.2.2.1 (j := 6) rfl
    have a7 := bcl P4.2.2.1 (j := 7) rfl
    have s0 := bcl P4.2.2.2.1 (j := 0) rfl
    have s1 := bcl P4.2.2.2.1 (j := 1) rfl
    have s2 := bcl P4.2.2.2.1 (j := 2) rfl
    have m1 : X4.cell? ⟨g5 + 3, 1, none⟩ = some (.int .i64 N.h) := P4.2.2.2.2.1.cell (i := 1) (by decide)
    have m2 : X4.cell? ⟨g5 + 3, 2, none⟩ = some (.int .i64 N.v) := P4.2.2.2.2.1.cell (i := 2) (by decide)
    have m3 : X4.cell? ⟨g5 + 3, 3, none⟩ = some (.int .i64 N.c) := P4.2.2.2.2.1.cell (i := 3) (by decide)
    have f1 : X4.frozen? ⟨g5 + 3, 1, none⟩ = false := P4.2.2.2.2.1.frozen 1
    have f2 : X4.frozen? ⟨g5 + 3, 2, none⟩ = false := P4.2.2.2.2.1.frozen 2
    have f3 : X4.frozen? ⟨g5 + 3, 3, none⟩ = false := P4.2.2.2.2.1.frozen 3
    have HP4 := hid1 P4
    clear P4
    go_upto_region 8 with fail
    refine gen_world (fun X => PbS X w N L b g5 H1 V1) (HP4.out.shape hb0) ?_
    clear a4 a5 a6 a7 s0 s1 s2 m1 m2 m3 f1 f2 f3 wA wH wB wV HP4
    rintro X5 P5
    have m1 : X5.cell? ⟨g5 + 3, 1, none⟩ = some (.int .i64 H1) := P5.2.2.2.2.1.cell (i := 1) (by decide)
    have m2 : X5.cell? ⟨g5 + 3, 2, none⟩ = some (.int .i64 V1) := P5.2.2.2.2.1.cell (i := 2) (by decide)
    have m3 : X5.cell? ⟨g5 + 3, 3, none⟩ = some (.int .i64 N.c) := P5.2.2.2.2.1.cell (i := 3) (by decide)
    have k0 : X5.cell? ⟨g5, 0, none⟩ = some (.int .i64 L.kd) := P5.2.1.cell (i := 0) (by decide)
    have HP5 := hid1 P5
    clear P5
    by_cases hk : L.kd = 1
    · rw [hk] at k0
      have HK := hid1 hk
      obtain ⟨-, ⟨⟨h1, h2⟩, ⟨h3, h4⟩, h5, h6⟩, ⟨⟨t1, t2⟩, ⟨t3, t4⟩, ⟨t5, t6⟩, t7, t8⟩, d1, d2⟩ := bo_first HZ.out (by rw [HL.out]; exact hk)
      rw [HL.out] at t1 t2 t3 t4 t5 t6 t7 t8 d1 d2
      clear hk
      have hE : H1 = N.h + L.t + L.b ∧ V1 = N.v + L.l + L.q := by
        obtain ⟨wA, wH, wB, wV⟩ := HWW.out
        rw [IntKind.wrap_i64] at wA wH wB wV
        omega
      have HHE := hid1 hE
      have HBD := hid1 (And.intro h1 (And.intro h2 (And.intro h3 (And.intro h4 (And.intro h5 (And.intro h6 (And.intro t1 (And.intro t2 (And.intro t3 (And.intro t4 (And.intro t5 (And.intro t6 (And.intro t7 (And.intro t8 (And.intro d1 d2)))))))))))))))
      have hb1 : 1 ≤ H1 ∧ H1 ≤ 4124 := by omega
      have hb2 : 1 ≤ V1 ∧ V1 ≤ 4124 := by omega
      obtain ⟨P1, hP1⟩ : ∃ P, P = H1 * V1 := ⟨_, rfl⟩
      obtain ⟨P2, hP2⟩ : ∃ P, P = P1 * N.c := ⟨_, rfl⟩
      have bP1 : 0 ≤ P1 ∧ P1 ≤ 17007376 := by
        rw [hP1]
        have u1 := Int.mul_le_mul hb1.2 hb2.2 (by omega) (by decide : (0 : Int) ≤ 4124)
        have u2 := Int.mul_nonneg (show 0 ≤ H1 by omega) (show 0 ≤ V1 by omega)
        omega
      have bP2 : 0 ≤ P2 ∧ P2 ≤ 69662212096 := by
        rw [hP2]
        have u1 := Int.mul_le_mul bP1.2 h6 (by omega) (by decide : (0 : Int) ≤ 17007376)
        have u2 := Int.mul_nonneg bP1.1 (show 0 ≤ N.c by omega)
        omega
      have wP1 : IntKind.i64.wrap (H1 * V1) = P1 := by rw [← hP1, IntKind.wrap_i64]; omega
      have wP2 : IntKind.i64.wrap (P1 * N.c) = P2 := by rw [← hP2, IntKind.wrap_i64]; omega
      have HPP := hid1 (And.intro hP1 hP2)
      clear hE hb1 hb2 hP1 hP2 bP1 bP2 h1 h2 h3 h4 h5 h6 t1 t2 t3 t4 t5 t6 t7 t8 d1 d2
      by_cases q1 : 100000 < P2
      · go_wp2_with fail
        go_ret
        exact ⟨rfl, by first | exact HP5.out.2.2.2.2.2.1 | (rw [← hb0]; exact HP5.out.2.2.2.2.2.1)⟩
      · by_cases q2 : 4096 < H1
        · go_wp2_with fail
          go_ret
          exact ⟨rfl, by first | exact HP5.out.2.2.2.2.2.1 | (rw [← hb0]; exact HP5.out.2.2.2.2.2.1)⟩
        · by_cases q3 : 4096 < V1
          · go_wp2_with fail
            go_ret
            exact ⟨rfl, by first | exact HP5.out.2.2.2.2.2.1 | (rw [← hb0]; exact HP5.out.2.2.2.2.2.1)⟩
          · have hbd := HBD.out
            obtain ⟨H, eH⟩ := Int.eq_ofNat_of_zero_le (show 0 ≤ N.h by omega)
            obtain ⟨V, eV⟩ := Int.eq_ofNat_of_zero_le (show 0 ≤ N.v by omega)
            obtain ⟨C, eC⟩ := Int.eq_ofNat_of_zero_le (show 0 ≤ N.c by omega)
            have hhe := HHE.out
            obtain ⟨H', eH'⟩ := Int.eq_ofNat_of_zero_le (show 0 ≤ H1 by omega)
            obtain ⟨V', eV'⟩ := Int.eq_ofNat_of_zero_le (show 0 ≤ V1 by omega)
            have HEQ := hid1 (And.intro eH (And.intro eV (And.intro eC (And.intro eH' eV'))))
            have HMm : Hid (m = H * V * C) := hid1 (by
              have := HSZ.out
              rw [eH, eV, eC, ← Int.natCast_mul, ← Int.natCast_mul] at this
              exact Int.ofNat.inj this)
            have HLT : Hid (H' * V' * C ≤ 100000) := hid1 (by
              have h9 := HPP.out
              rw [h9.1, eH', eV', ← Int.natCast_mul, eC] at h9
              rw [← Int.natCast_mul] at h9
              omega)
            have HHH : Hid (((H' : Int) = H + L.t + L.b ∧ (V' : Int) = V + L.l + L.q) ∧ (H' ≤ 4096 ∧ V' ≤ 4096 ∧ C ≤ 4096) ∧ H' * V' * C ≤ 100000 ∧ (0 ≤ L.t ∧ L.t ≤ 14) ∧ (0 ≤ L.l ∧ L.l ≤ 14) ∧ (0 ≤ L.b ∧ L.b ≤ 14) ∧ 0 ≤ L.q ∧ L.q ≤ 14) := hid1 ⟨⟨by omega, by omega⟩, ⟨by omega, by omega, by omega⟩, HLT.out, ⟨by omega, by omega⟩, ⟨by omega, by omega⟩, ⟨by omega, by omega⟩, by omega, by omega⟩
            have HBC : Hid (BoC X5 g5 (g5 + 1) (g5 + 1 + 1) L.t L.l L.b L.q L.bd H V C) := hid1 (by
              obtain ⟨p1, p2, p3, p4, -⟩ := HP5.out
              exact ⟨⟨by rw [← eH]; exact bcl p4 (j := 0) rfl, by rw [← eV]; exact bcl p4 (j := 1) rfl, by rw [← eC]; exact bcl p4 (j := 2) rfl⟩, ⟨bcl p3 (j := 4) rfl, bcl p3 (j := 5) rfl, bcl p3 (j := 6) rfl, bcl p3 (j := 7) rfl⟩, p2.cell (i := 11) (by decide)⟩)
            have HX5 := hid1 (HX.out.keep HP5.out.2.2.2.2.2.1)
            have a4 := HBC.out.2.1.1
            have wt : IntKind.i64.wrap (0 - L.t) = -L.t := by rw [IntKind.wrap_i64]; omega
            have wt' : IntKind.i64.wrap (-L.t) = -L.t := by rw [IntKind.wrap_i64]; omega
            clear hbd hhe eH eV eC eH' eV'
            go_upto_block 0 with fail
            refine bo_b0 _ _ _ _ _ _ _ _ _ _ _ _ _ _ _ _ _ _ _ _ _ _ _ _ _ _ _ _ _ _ _ _ _ _ _ _ _ _ _ _ _ _ _ _ _ _ _ _ _ _ _ _ _ _ _ _ _ _ _ _ _ _ _ _ _ _ _ _ _ _ _ _ _ _ _ _ _ _ _ _ _ _ _ _ _ _ _ _ _ _ _ _ _ _ _ _ _ _ _ _ _ _ _ _ _ _ _ _ _ _ _ _ _ _ _ _ _ _ _ _ _ _ _ _ _ _ _ _ _ _ _ _ _ _ _ _ _ _ _ _ _ _ _ _ _ _ _ _ _ _ _ _ _ _ _ _ _ _ _ _ _ _ _ _ _ _ _ _ _ _ _ _ _ _ _ _ _ _ _ _ _ _ _ ao m cap g5 (g5 + 1) (g5 + 1 + 1) f L.t L.l L.b L.q L.bd H V H' V' C X5 _ _ HMm HX5 HBC HHH (hid1 (by first | rfl | omega)) (hid1 ?_)
            intro X6 k la lc v10 v11 v12 v87 v88 v89 v90 v91 v92 v93 v94 v95 v96 v97 v98 v99 v100 v101 v102 v103 v104 v105 v106 v107 v108 v109 v110 v111 v112 v113 v114 v115 v116 v117 v118 v119 v120 v121 v122 v123 v124 v125 v126 v127 v128 v129 v130 v131 v132 v133 v134 v135 v136 v137 v138 v139 v140 v141 v142 v143 v144 v145 v146 v147 v148 v149 v150 v151 v152 v153 v154 hk own6 B6
            have hg5 : g5 < X5.heap.size := by have := HP5.out.2.2.2.2.2.2.2; omega
            have HKK := hid1 hk
            have HO6 := hid1 own6
            have HP6 := hid1 (HP5.out.keep B6)
            clear m1 m2 m3 k0 a4 wt wt' wP1 wP2 q1 q2 q3 hk own6 B6
            refine kgo (by assumption) ?_
            refine bo_tail _ _ _ _ _ _ _ _ _ _ _ _ _ _ _ _ _ _ _ _ _ _ _ _ _ _ _ _ _ _ _ _ _ _ _ _ _ _ _ _ _ _ _ _ _ _ _ _ _ _ _ _ _ _ _ _ _ _ _ _ _ _ _ _ _ _ _ _ _ _ _ _ _ _ _ _ _ _ _ _ _ _ _ _ _ _ _ _ _ _ _ _ _ _ _ _ _ _ _ _ _ _ _ _ _ _ _ _ _ _ _ _ _ _ _ _ _ _ _ _ _ _ _ _ _ _ _ _ _ _ _ _ _ _ _ _ _ _ _ _ _ _ _ _ _ _ _ _ _ _ _ _ _ _ _ _ _ _ _ _ _ _ _ _ _ _ _ _ _ _ _ _ _ _ _ _ _ _ _ _ _ _ _ _ N L b g5 m cap k lc X5.heap.size ao la f H1 V1 H V H' V' C w X6 _ hb0 HP6 HO6 hg5 HN HX HCW HZ HL HK HWO HSZ HHE HEQ HMm (hid1 ⟨⟨HHH.out.2.1.1, HHH.out.2.1.2.1⟩, HLT.out⟩) HKK (hid1 ?_)
            intro X9 v13 v14 v15 v16 v155 v156 v157 v158 v159 v160 v161 v162 v163 v164 v165 v166 v167 v168 v169 v170 v171 v172 v173 v174 v175 v176 v177 v178 v179 v180 v181 v182 v183 v184 v185 v186 v187 v188 B9
            go_ret
            exact ⟨rfl, by first | exact B9 | (rw [← hb0]; exact B9)⟩
    · go_wp2_with fail
      go_ret
      exact ⟨rfl, by first | exact HP5.out.2.2.2.2.2.1 | (rw [← hb0]; exact HP5.out.2.2.2.2.2.1)⟩
end Go.Proofs.Ytkfjgfijhaoliaa.Nn
namespace Go.Proofs.Ytkfjgfijhaoliaa
open Go.ChangeShapes Go.WideShapes Go.ChangeAt Go.RowKit

set_option maxRecDepth 100000 in
theorem plainBorder_lifted (os : Os) (started : os.Started) (H : Type) (enc : TypeId × Value → H) :
    ReturnsInHanded {} Try.checked os 3 .any (Rows.plainBorderSpec.pre6 enc Try.prog Try.f3 Rows.plainBorderRow.domain false) (Rows.plainBorderSpec.post enc Try.prog Try.f3 false true false false) := by
  refine returnsInHanded_of_change_sized (C := Try.checked) own started (by kernel_rfl) Try.func3
    (ChangeSpec.witness6 (enc := enc) (C := Try.checked) false ⟨#[], #[.agg #[.string ⟨#[]⟩, .int .i64 0, .int .i64 0, .int .i64 0, .slice none 0 0], .slice none 0 0], []⟩ 8 (by kernel_rfl) (by kernel_rfl) (by kernel_rfl) (by kernel_rfl)) ?_
  intro W base args ds gs before hval0 hW _ _ _
  have hval : ∀ (j : Nat) t v, Try.f3.params[j]? = some t → args[j]? = some v → Value.okWide Try.prog W .any base t v := hval0
  have hW' := hW
  obtain ⟨p, q, hA0, hV, rfl, hfz, hnd⟩ := hW
  have hA : DataW.TrodAll enc Try.prog W 0 (fun _ => true) true Try.f3.params.toList args.toList ds p := hA0
  rw [Try.params3] at hA hval
  obtain ⟨v0, vs0, d0, ds0, p0, q0, hargs, rfl, rfl, h0, r0⟩ := trodAll_cons hA
  obtain ⟨v1, vs1, d1, ds1, p1, q1, rfl, rfl, rfl, h1, r1⟩ := trodAll_cons r0
  obtain ⟨rfl, rfl, rfl⟩ := trodAll_nil r1
  obtain rfl : args = #[v0, v1] := by cases args; simp_all
  obtain ⟨rfl, rfl⟩ := trodVars_none hV
  have lt0 : ∀ x ∈ p0, x.block < W.heap.size := by obtain ⟨m, hm⟩ := h0; exact DataW.trod_lt m _ _ _ hm
  have k0 := h0
  have lt1 : ∀ x ∈ p1, x.block < W.heap.size := by obtain ⟨m, hm⟩ := h1; exact DataW.trod_lt m _ _ _ hm
  have k1 := h1
  obtain ⟨N0, rfl, nw0, nl0, nc0⟩ := open_net (hval 0 26 v0 rfl rfl) h0
  obtain ⟨ao1, m1, c1, fn1, rfl, hm1, hc1, f1⟩ := open_u8s (hval 1 27 v1 rfl rfl) h1
  clear hA0 hval0
  refine (Nn.plainBorder_any N0 ao1 m1 c1 fn1 W nw0 (fun j hj => (nc0 j hj).1) (fun k hk => by obtain ⟨h, g, o, e, c⟩ := f1 k hk; exact ⟨g, o, e, c, h.1, h.2⟩)).mono fun e W' ⟨he, bel⟩ => ?_
  subst he
  exact ⟨_, rfl, _, _, _, [], _, [], hW', trodAll_mk1 (shut_bool Try.underlying4 _), (trodAll_cons_mk (Below.trod laidOut (by kernel_rfl) (of_decide_eq_true (by kernel_rfl)) k0 bel lt0) (trodAll_cons_mk (Below.trod laidOut (by kernel_rfl) (of_decide_eq_true (by kernel_rfl)) k1 bel lt1) trodAll_mk0)), rfl, bel.frame _, fun h => by cases h⟩

theorem plainBorder_holds : Rows.PlainBorderSaid :=
  OpenClaim.holds_of_wide 3 Try.f3 rfl rfl rfl rfl rfl rfl rfl ⟨rfl, rfl, rfl, rfl, rfl⟩ rfl rfl rfl rfl rfl (by kernel_rfl) Try.func3 (by kernel_rfl)
    (of_decide_eq_true (by kernel_rfl)) (by unfold Func.isWrapper; first | (rw [if_pos (by decide +kernel)]; kernel_rfl) | (rw [if_neg (by decide +kernel)]; exact ⟨rfl, rfl⟩))
    (fun os started H enc _ => plainBorder_lifted os started H enc)
#print axioms plainBorder_holds
end Go.Proofs.Ytkfjgfijhaoliaa
