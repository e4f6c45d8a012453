import Derived.Test.YtmbhapegdbajpaaQGPoolFreshUpto
import Derived.Test.YtmbhapegdbajpaaQFPoolFreshUpto
import Derived.Test.YtmbhapegdbajpaaQAPoolFreshUpto
import Derived.StillTailTactics
import Derived.Deep.CutBlock
import Derived.Deep.DeepCutAuto
import Derived.Deep.RegionHeld3
import Derived.Deep.RegionLaw
/- PoolFresh: a round's end. -/
namespace Go.Proofs.Ytmbhapegdbajpaa
open Go.RowKit Go.Shelf

/-- What stands at a round's start. -/
def Hd (w W : World) (bb wb : Nat) (va vb : Value) (k : Nat) (r s sy sx t lf b q : Int) : Prop := ∃ (S : Nat → Prop) (vB : Value) (z : Int) (l : List Br) (p : Nat) (La Lb : List Tc), Pf w W S bb w.heap.size va vb vB z l La Lb ∧ W.rowIs wb 24 8 (wnf r s sy sx t lf b q) ∧ Mt La Lb ∧ l.length = 2 * p ∧ p ≤ k ∧ La.length ≤ 2 * k
/-- A sequence whose first statement is the region. -/
def isFst (n : Nat) : Code → Bool
  | .region id _ _ => id == n
  | .seq a _ => isFst n a
  | _ => false
noncomputable def pfT17 : Code := (Try.f3.body.bind (fromP (isFst 17))).getD .skip
attribute [local go_sem ↓] Go.wp_at_zero Go.wp_at_succ
set_option maxHeartbeats 12800000 in
set_option maxRecDepth 100000 in
theorem pf_t17 (u0 u1 u2 u3 u4 u6 u7 u15 u16 u17 u18 u19 u20 u21 u22 u23 u24 u25 u26 u27 u28 u29 u30 u31 u32 u33 u34 u35 u36 u37 u38 u39 u40 u41 u42 u43 u44 u45 u46 u47 u48 u49 u50 u51 u52 u53 u54 u55 u56 u57 u58 u59 u60 u61 u62 u63 u64 u65 u66 u67 u68 u69 u70 u71 u72 u73 u74 u75 u76 u77 u78 u79 u80 u81 u82 u83 u84 u85 u86 u87 u88 u89 u90 u91 u92 u93 u94 u95 u96 u97 u98 u99 u100 u101 u102 u103 u104 u105 u106 u107 u108 u109 u110 u111 u112 u113 u114 u115 u116 u117 u118 u119 u120 u121 u122 u123 u124 u125 u126 u127 u128 u129 u130 u131 u132 u133 u134 u135 u136 u137 u138 u139 u140 u141 u142 u143 u144 u145 u146 u147 u148 u149 u150 u151 u152 u153 u154 : Value) (k bb ob bx b12 b13 b14 wb Gx : Nat) (z8 : Int) (w W : World) (S : Nat → Prop) (vB : Value) (z : Int) (l : List Br) (La Lb : List Tc) (kd h v c : Int) (xo : Option Addr) (n xc N : Nat) (r s sy sx t lf b q : Int) (hh vv cc E : Int) (M X : Nat) (bo1 bo2 bo3 : Option Addr) (h1 h2 h3 h4 : Nat) (Q : Exit → Act → World → Prop)
    (hM : M ≤ 1073741824) (hla : La.length ≤ 1099511627776) (hS : ∀ b, h1 ≤ b → S b) (hgx : Gx < h1) (h4W : h4 ≤ W.heap.size) (hb12 : h1 ≤ b12 ∧ b12 < W.heap.size) (hb13 : h1 ≤ b13 ∧ b13 < W.heap.size)
    (hu6 : ∀ k, u6.ownBlock = some k → k < h1) (hu7 : ∀ k, u7.ownBlock = some k → k < h1)
    (i1 : ∀ G, bo1 = some ⟨G, 0, none⟩ → h1 ≤ G ∧ G < h2) (i2 : ∀ G, bo2 = some ⟨G, 0, none⟩ → h2 ≤ G ∧ G < h3) (i3 : ∀ G, bo3 = some ⟨G, 0, none⟩ → h3 ≤ G ∧ G < h4) (h12 : h1 ≤ h2) (h23 : h2 ≤ h3) (h34 : h3 ≤ h4)
    (HSP : Hid (∀ G, Gx ≤ G → Sep La Lb G)) (HMT : Hid (Mt La Lb))
    (HRK : Hid (Rk w W S bb u6 u7 vB z l La Lb wb ob bx Gx n (rmf N n) kd h v c xo xc r s sy sx t lf b q)) (HTA : Hid (T1 W w.heap.size S b12 hh vv cc E M X bo1)) (HTB : Hid (T1 W w.heap.size S b13 hh vv cc E M X bo2)) (HTC : Hid (T1 W w.heap.size S b14 hh vv cc E M X bo3))
    (p : Nat) (hp : l.length = 2 * p) (hpk : p ≤ k) (hk : k ≤ 1048576 * 2) (hla2 : La.length ≤ 2 * k) (hN : N < 2 ^ (64 * n)) (hn : n ≤ 17592186043904) (hgw : w.heap.size ≤ Gx) (hSx : S Gx)
    (HRX : Hid (∀ W, Below w.heap.size w W → Wr W xo n N))
    (HAL : Hid (∀ Y, Wr Y xo n N → Calls Try.prog 5 #[opv kd h v c xo n xc r s sy sx t lf b q] Y fun e w' => ∃ G, e = .returned (opv kd h v c (some ⟨G, 0, none⟩) n (n + 66) r s sy sx t lf b q) ∧ Y.heap.size ≤ G ∧ w'.rowIs G 47 (n + 66) (rmf N n) ∧ Below Y.heap.size Y w'))
    (HRN : Hid (∀ G Y, Wr Y (some ⟨G, 0, none⟩) n N → Calls Try.prog 6 #[opv kd h v c (some ⟨G, 0, none⟩) n (n + 66) r s sy sx t lf b q] Y fun e w' => ∃ bo, e = .returned (tov hh vv cc bo M M E) ∧ Nw Y w' bo M X ∧ Below Y.heap.size Y w'))
    (hQ : Hid (∀ (Y : World) (va1 vb1 v15 v75 v76 v77 v78 v79 v80 v81 v82 v83 v84 v85 v86 v87 v88 v89 v90 v91 v92 v93 v94 v95 v96 v97 v98 v99 v100 v101 v102 v103 v104 v105 v106 v107 v108 v109 v110 v111 v112 v113 v114 v115 v116 v117 v118 v119 v120 v121 v122 : Value), Hd w Y bb wb va1 vb1 (k + 1) r s sy sx t lf b q → Q .normal ⟨#[u0, u1, u2, u3, u4, .pointer (some ⟨bb, 0, none⟩), va1, vb1, .int .i64 z8, .int .i64 (k : Int), .pointer (some ⟨ob, 0, none⟩), .pointer (some ⟨bx, 0, none⟩), .pointer (some ⟨b12, 0, none⟩), .pointer (some ⟨b13, 0, none⟩), .pointer (some ⟨b14, 0, none⟩), v15, u16, u17, u18, u19, u20, u21, u22, u23, u24, u25, u26, u27, u28, u29, u30, u31, u32, u33, u34, u35, u36, u37, u38, u39, u40, u41, u42, u43, u44, u45, u46, u47, u48, u49, u50, u51, u52, u53, u54, u55, u56, u57, u58, u59, u60, u61, u62, u63, u64, u65, u66, u67, u68, u69, u70, u71, u72, u73, u74, v75, v76, v77, v78, v79, v80, v81, v82, v83, v84, v85, v86, v87, v88, v89, v90, v91, v92, v93, v94, v95, v96, v97, v98, v99, v100, v101, v102, v103, v104, v105, v106, v107, v108, v109, v110, v111, v112, v113, v114, v115, v116, v117, v118, v119, v120, v121, v122, u123, u124, u125, u126, u127, u128, u129, u130, u131, u132, u133, u134, u135, u136, u137, u138, u139, u140, u141, u142, u143, u144, u145, u146, u147, u148, u149, u150, u151, u152, u153, u154], []⟩ Y)) :
    Code.wp Try.prog pfT17 Q ⟨#[u0, u1, u2, u3, u4, .pointer (some ⟨bb, 0, none⟩), u6, u7, .int .i64 z8, .int .i64 (k : Int), .pointer (some ⟨ob, 0, none⟩), .pointer (some ⟨bx, 0, none⟩), .pointer (some ⟨b12, 0, none⟩), .pointer (some ⟨b13, 0, none⟩), .pointer (some ⟨b14, 0, none⟩), u15, u16, u17, u18, u19, u20, u21, u22, u23, u24, u25, u26, u27, u28, u29, u30, u31, u32, u33, u34, u35, u36, u37, u38, u39, u40, u41, u42, u43, u44, u45, u46, u47, u48, u49, u50, u51, u52, u53, u54, u55, u56, u57, u58, u59, u60, u61, u62, u63, u64, u65, u66, u67, u68, u69, u70, u71, u72, u73, u74, u75, u76, u77, u78, u79, u80, u81, u82, u83, u84, u85, u86, u87, u88, u89, u90, u91, u92, u93, u94, u95, u96, u97, u98, u99, u100, u101, u102, u103, u104, u105, u106, u107, u108, u109, u110, u111, u112, u113, u114, u115, u116, u117, u118, u119, u120, u121, u122, u123, u124, u125, u126, u127, u128, u129, u130, u131, u132, u133, u134, u135, u136, u137, u138, u139, u140, u141, u142, u143, u144, u145, u146, u147, u148, u149, u150, u151, u152, u153, u154], []⟩ W := by
  conv => arg 2; whnf
  go_upto_if 76 with fail
  go_cut [6, 7] from 77 to 88 (fun va1 vb1 wx => E17 w W S bb va1 vb1 vB z l La wb ob bx Gx n N kd h v c xo xc r s sy sx t lf b q b12 b13 hh vv cc E M X bo1 bo2 wx)
  case first =>
    by_cases hz8 : z8 ≤ 33554432
    · refine wp_cond_true (by simp [go_sem, hz8]) ?_
      refine pf_c18 _ _ _ _ _ _ _ _ _ _ _ _ _ _ _ _ _ _ _ _ _ _ _ _ _ _ _ _ _ _ _ _ _ _ _ _ _ _ _ _ _ _ _ _ _ _ _ _ _ _ _ _ _ _ _ _ _ _ _ _ _ _ _ _ _ _ _ _ _ _ _ _ _ _ _ _ _ _ _ _ _ _ _ _ _ _ _ _ _ _ _ _ _ _ _ _ _ _ _ _ _ _ _ _ _ _ _ _ _ _ _ _ _ _ _ _ _ _ _ _ _ _ _ _ _ _ _ _ _ _ _ _ _ _ _ _ _ _ _ _ _ _ _ _ _ _ _ k bb ob bx b12 b13 b14 wb Gx z8 w W S vB z l La Lb kd h v c xo n xc N r s sy sx t lf b q hh vv cc E M X bo1 bo2 bo3 h1 h2 h3 h4 _ hM hla hS hgx h4W hb12 hb13 hu6 hu7 i1 i2 i3 h12 h23 h34 HSP HMT HRK HTA HTB HTC (hid1 ?_)
      rintro Y va1 vb1 v77 v78 v79 v80 v81 v82 v83 v84 v85 v86 v87 v88 hE
      refine kmeet_of (by assumption) ?_
      go_meet
      exact hE
    · go_wp2_with fail
      go_meet
      exact ⟨La, Lb, HRK.out, HTA.out, HTB.out, HMT.out, by omega, HSP.out Gx (Nat.le_refl _), fun G e => HSP.out G (by have := i1 G e; omega), Nat.le_refl _⟩
  case rest =>
    obtain ⟨La1, Lb1, rk, ta, tb, mt1, hl1, sx1, sp1, zz1⟩ := hcut
    rename World => Y1
    have lx1 := rk.rx.lt
    have lwA : ∀ G, bo1 = some ⟨G, 0, none⟩ → Y1.rowIs G 47 M (wf X) := fun G e => by
      rcases ta.a with ⟨e1, _⟩ | ⟨G1, e1, row, _⟩
      · rw [e1] at e; cases e
      · rw [e1] at e; cases e; exact row
    have ltk : (bo1 = none ∧ M = 0) ∨ ∃ G f, bo1 = some ⟨G, 0, none⟩ ∧ Y1.rowIs G 47 M f ∧ S G ∧ w.heap.size ≤ G := by
      rcases ta.a with ⟨e1, e2, _⟩ | ⟨G1, e1, row, _, e3, e4⟩
      · exact .inl ⟨e1, e2⟩
      · exact .inr ⟨G1, _, e1, row, e3, e4⟩
    have HTK := hid1 (take_pf rk.pf p hp (by omega) bo1 M hM ltk sp1)
    have n1x : bo1 ≠ some ⟨Gx, 0, none⟩ := fun e => by have := i1 _ e; omega
    have n2x : bo2 ≠ some ⟨Gx, 0, none⟩ := fun e => by have := i2 _ e; omega
    obtain ⟨d0, d1, d2, d3, d4⟩ := to_cells ta.t
    have HRK1 := hid1 rk
    have HTB1 := hid1 tb
    have HLW := hid1 lwA
    clear rk ta tb lwA ltk
    refine kgo (by assumption) ?_
    go_upto_region 21 with (go_at_call 10; refine HTK.out.mono ?_; rintro e Y2 ⟨rfl, vB2, z2, l2, p2, hp2, hpp2, pf2, fb2⟩)
    have HRK2 := hid1 (HRK1.out.take pf2 fb2 HLW.out n1x)
    have lt2 : ∀ G, bo2 = some ⟨G, 0, none⟩ → G < Y1.heap.size := fun G e => by have := i2 G e; omega
    have HTB2 := hid1 (HTB1.out.take (S' := fun b => (S b ∧ b < Y1.heap.size) ∧ bo1 ≠ some ⟨b, 0, none⟩) HRK1.out.pf fb2 HLW.out (fun G e e' => by have := i2 G e; have := i1 G e'; omega) (fun G e hs => ⟨⟨hs, lt2 G e⟩, fun e' => by have := i2 G e; have := i1 G e'; omega⟩))
    obtain ⟨S2, hS2⟩ : ∃ S2 : Nat → Prop, S2 = fun b => (S b ∧ b < Y1.heap.size) ∧ bo1 ≠ some ⟨b, 0, none⟩ := ⟨_, rfl⟩
    have hSx2 : S2 Gx := by rw [hS2]; exact ⟨⟨hSx, lx1⟩, n1x⟩
    rw [← hS2] at HRK2 HTB2
    clear hS2
    have zz2 := fb2.size
    clear pf2 fb2 HTK HRK1 HTB1 HLW d0 d1 d2 d3 d4
    go_wp2_with fail
    go_loopw [15] (fun j wr => ∃ (i : Nat) (fy : Nat → Value), i ≤ n ∧ j = .int .i64 i ∧ Rk w wr S2 bb u6 u7 vB2 z2 l2 La1 Lb1 wb ob bx Gx n fy kd h v c xo xc r s sy sx t lf b q ∧ T1 wr w.heap.size S2 b13 hh vv cc E M X bo2) (fun j _ => n - (intOf j).toNat)
    case atStart => exact ⟨0, _, Nat.zero_le _, rfl, HRK2.out, HTB2.out⟩
    case round =>
      clear HRK2 HTB2
      rename World => V
      obtain ⟨i, fy, hi, rfl, rk, tb⟩ := hrel
      by_cases hlt : i < n
      · have ii : (i : Int) < (n : Int) := by omega
        have ii0 : (0 : Int) ≤ (i : Int) := by omega
        have ix : (i : Int) < ((n : Nat) : Int) := ii
        obtain ⟨c0, c1, c2, c3, c4, c5, c6, c7, c8, c9, c10, c11, c12⟩ := op_cells rk.xx
        have cc := rk.rx.cell (i := i) (by omega)
        have ff := rk.rx.frozen i
        have HR := hid1 rk
        have HT := hid1 tb
        clear rk tb
        go_wp2_with fail
        exact ⟨⟨i + 1, _, by omega, by go_num, HR.out.fill ((But.refl _ _).set _) hSx2 hgw sx1 (HR.out.rx.set i _), HT.out.fill ((But.refl _ _).set _) HR.out.rx n2x⟩, by simp [intOf]; omega⟩
      · obtain rfl : i = n := by omega
        have HOP := hid1 (And.intro (op_cells rk.oo) (to_cells tb.t))
        have HWH := hid1 (fun (Y : World) (hb : Below V.heap.size V Y) => whole_any S2 bb w.heap.size vB2 z2 l2 Y (by omega) (rk.pf.below hb).bk)
        have HWR := hid1 (fun (Y : World) (hb : Below V.heap.size V Y) => (tb.below hb).a.wr)
        have HAL1 := hid1 (fun (Y : World) (hb : Below V.heap.size V Y) => HAL.out Y (HRX.out Y (rk.pf.below hb).bel))
        have HEN := hid1 (fun (Y : World) (hb : Below V.heap.size V Y) => And.intro (rk.pf.below hb) (keepr hb rk.wi))
        obtain ⟨c0, c1, c2, c3, c4, c5, c6, c7, c8, c9, c10, c11, c12⟩ := op_cells rk.xx
        clear rk tb
        go_upto_region 25 with fail
        refine pf_r25 _ _ _ _ _ _ _ _ _ _ _ _ _ _ _ _ _ _ _ _ _ _ _ _ _ _ _ _ _ _ _ _ _ _ _ _ _ _ _ _ _ _ _ _ _ _ _ _ _ _ _ _ _ _ _ _ _ _ _ _ _ _ _ _ _ _ _ _ _ _ _ _ _ _ _ _ _ _ _ _ _ _ _ _ _ _ _ _ _ _ _ _ _ _ _ _ _ _ _ _ _ _ _ _ _ _ _ _ _ _ _ _ _ _ _ _ _ _ _ _ _ _ _ _ _ _ _ _ _ _ _ _ _ _ _ _ _ _ _ _ _ _ _ _ _ _ _ _ _ _ _ k bb ob b13 V kd h v c xo i xc N r s sy sx t lf b q hh vv cc E M X bo2 _ (by omega) hN (by omega) HOP HWH HWR HAL1 HRN (hid1 ?_)
        rintro Y v107 v108 v109 v110 v111 v112 v113 v114 v115 v116 v117 v118 v119 v120 v121 hb
        obtain ⟨pf, wi⟩ := HEN.out Y hb
        go_wp2_with fail
        exact hQ.out _ _ _ _ _ _ _ _ _ _ _ _ _ _ _ _ _ _ _ _ _ _ _ _ _ _ _ _ _ _ _ _ _ _ _ _ _ _ _ _ _ _ _ _ _ _ _ _ _ _ _ _ ⟨S2, vB2, z2, l2, p2, La1, Lb1, pf, wi, mt1, hp2, by omega, by omega⟩
end Go.Proofs.Ytmbhapegdbajpaa
/- PoolFresh: what follows the great loop. -/
namespace Go.Proofs.Ytmbhapegdbajpaa
open Go.RowKit Go.Shelf

theorem own_atF {W : World} {base g cap : Nat} {f : Tc → Value} {l : List Tc} (h : W.ownsRow base 41 5 (.slice (some ⟨g, 0, none⟩) l.length cap) l.length (tcg f l)) (j : Nat) (hj : j < l.length) (x : Tc) (hx : l[j] = x) : W.cell? ⟨g, j * 5, none⟩ = some (.int .i64 x.h) ∧ W.cell? ⟨g, j * 5 + 1, none⟩ = some (.int .i64 x.v) ∧ W.cell? ⟨g, j * 5 + 2, none⟩ = some (.int .i64 x.c) ∧ W.cell? ⟨g, j * 5 + 3, none⟩ = some (f x) ∧ W.cell? ⟨g, j * 5 + 4, none⟩ = some (.int .i64 x.e) := by
  obtain ⟨t0, t1, t2, t3, t4⟩ := tcg_at f l j hj
  rw [hx] at t0 t1 t2 t3 t4
  have ad : ∀ i, (⟨g, 0, none⟩ : Addr).add i = ⟨g, i, none⟩ := fun i => by rcases i with _ | i <;> simp [Addr.add]
  have at' := fun i u hu => h.cells (g := g) rfl i u hu
  simp only [ad] at at'
  exact ⟨at' _ _ t0, at' _ _ t1, at' _ _ t2, at' _ _ t3, at' _ _ t4⟩
theorem kpF5 {W X : World} {g1 g2 o : Nat} {a0 a1 a2 a3 a4 b0 b1 b2 b3 b4 : Value} (h : (W.cell? ⟨g1, o, none⟩ = some a0 ∧ W.cell? ⟨g1, o + 1, none⟩ = some a1 ∧ W.cell? ⟨g1, o + 2, none⟩ = some a2 ∧ W.cell? ⟨g1, o + 3, none⟩ = some a3 ∧ W.cell? ⟨g1, o + 4, none⟩ = some a4) ∧ W.cell? ⟨g2, o, none⟩ = some b0 ∧ W.cell? ⟨g2, o + 1, none⟩ = some b1 ∧ W.cell? ⟨g2, o + 2, none⟩ = some b2 ∧ W.cell? ⟨g2, o + 3, none⟩ = some b3 ∧ W.cell? ⟨g2, o + 4, none⟩ = some b4) (hb : Below W.heap.size W X) :
    (X.cell? ⟨g1, o, none⟩ = some a0 ∧ X.cell? ⟨g1, o + 1, none⟩ = some a1 ∧ X.cell? ⟨g1, o + 2, none⟩ = some a2 ∧ X.cell? ⟨g1, o + 3, none⟩ = some a3 ∧ X.cell? ⟨g1, o + 4, none⟩ = some a4) ∧ X.cell? ⟨g2, o, none⟩ = some b0 ∧ X.cell? ⟨g2, o + 1, none⟩ = some b1 ∧ X.cell? ⟨g2, o + 2, none⟩ = some b2 ∧ X.cell? ⟨g2, o + 3, none⟩ = some b3 ∧ X.cell? ⟨g2, o + 4, none⟩ = some b4 := by
  obtain ⟨⟨p0, p1, p2, p3, p4⟩, q0, q1, q2, q3, q4⟩ := h
  exact ⟨⟨keepc hb p0, keepc hb p1, keepc hb p2, keepc hb p3, keepc hb p4⟩, keepc hb q0, keepc hb q1, keepc hb q2, keepc hb q3, keepc hb q4⟩
/-- All answers from j on are as they were. -/
structure P4 (w W : World) (S : Nat → Prop) (bb : Nat) (va vB : Value) (z : Int) (l : List Br) (La : List Tc) (j : Nat) : Prop where
  bk : Bk W S bb w.heap.size vB z l
  a : W.ownsRow w.heap.size 41 5 va La.length (tcg faT La)
  an : ∀ i (h : i < La.length), j ≤ i → As w.heap.size W S La[i].ao La[i].m La[i].N
  am : ∀ x ∈ La, x.m ≤ 1073741824
  ds : ∀ i j (hi : i < La.length) (hj : j < La.length), i < j → ∀ G, La[i].ao = some ⟨G, 0, none⟩ → La[j].ao ≠ some ⟨G, 0, none⟩
  bel : Below w.heap.size w W
  hbb : w.heap.size ≤ bb
theorem Pf.p4 {w W : World} {S : Nat → Prop} {bb : Nat} {va vb vB : Value} {z : Int} {l : List Br} {La Lb : List Tc} (h : Pf w W S bb w.heap.size va vb vB z l La Lb) : P4 w W S bb va vB z l La 0 :=
  ⟨h.bk, h.a, fun _ hi _ => (h.an _ (List.getElem_mem hi)).1, fun x hx => (h.an x hx).2, h.ds, h.bel, h.hb.1⟩
theorem P4.take {w W : World} {S : Nat → Prop} {bb : Nat} {va vB : Value} {z : Int} {l : List Br} {La : List Tc} {j : Nat} (h : P4 w W S bb va vB z l La j) (p : Nat) (hp : l.length = 2 * p) (hpl : p ≤ 268435456) (hj : j < La.length) (x : Tc) (hx : La[j] = x) :
    Calls Try.prog 10 #[.pointer (some ⟨bb, 0, none⟩), .slice x.ao x.m x.m] W fun e W' => e = .returned (.tuple #[]) ∧ ∃ S' vB' z' l' p', l'.length = 2 * p' ∧ p' ≤ p + 1 ∧ P4 w W' S' bb va vB' z' l' La (j + 1) := by
  have aj := h.an j hj (Nat.le_refl _)
  have dj : ∀ i (hi : i < La.length), j < i → ∀ G, x.ao = some ⟨G, 0, none⟩ → La[i].ao ≠ some ⟨G, 0, none⟩ := fun i hi hji G e => h.ds j i hj hi hji G (by rw [hx]; exact e)
  have hm := h.am x (by rw [← hx]; exact List.getElem_mem hj)
  rw [hx] at aj
  have lw : LwB W (fun b => S b ∧ b < W.heap.size) x.ao x.m := by
    rcases aj with ⟨e1, e2, _⟩ | ⟨G, e, row, _, s, _⟩
    · exact .inl ⟨e1, e2⟩
    · exact .inr ⟨G, _, e, row, s, row.lt⟩
  refine (take_any (fun b => S b ∧ b < W.heap.size) bb w.heap.size vB z l p hp x.ao x.m W hpl hm (fun b x => x.2) h.bel.size (h.bk.sub fun g _ x => x.1) lw).mono ?_
  rintro e W' ⟨rfl, vB', z', l', p', e1, e2, bk', fb⟩
  refine ⟨rfl, _, vB', z', l', p', e1, e2, ⟨bk', own_fb h.a fb ?_, fun i hi hji => ?_, h.am, h.ds, fb.to_below h.bel ?_, h.hbb⟩⟩
  · rintro k ek (rfl | e | e)
    · exact own_row_neU h.a h.bk.bo (by decide) ek
    · rcases aj with ⟨e0, _⟩ | ⟨G, e0, row, _⟩
      · rw [e0] at e; cases e
      · rw [e0] at e; cases e
        exact own_row_neU h.a row (by decide) ek
    · exact own_tell h.a h.bk.ow (by decide) k ek e
  · rcases h.an i hi (by omega) with e | ⟨G, eG, row, hN, s, hB⟩
    · exact .inl e
    · refine .inr ⟨G, eG, fb.row row ?_, hN, ⟨⟨s, row.lt⟩, fun e => dj i hi (by omega) G e eG⟩, hB⟩
      rintro (e | e | e)
      · exact bk_ne h.bk.bo row e
      · exact dj i hi (by omega) G e eG
      · exact own_row_neU h.bk.ow row (by decide) e
  · have h2 := h.hbb
    rintro k (rfl | e | e)
    · omega
    · rcases aj with ⟨e0, _⟩ | ⟨G, e0, _, _, _, hG⟩
      · rw [e0] at e; cases e
      · rw [e0] at e; cases e; exact hG
    · exact (h.bk.ow.lt k e).1
noncomputable def pfT27 : Code := (Try.f3.body.bind (fromP (isFst 27))).getD .skip
attribute [local go_sem ↓] Go.wp_at_zero Go.wp_at_succ
set_option maxHeartbeats 12800000 in
set_option maxRecDepth 100000 in
theorem pf_t27 (u0 u1 u2 u3 u4 u6 u7 u8 u9 u10 u11 u12 u13 u14 u15 u16 u17 u18 u19 u20 u21 u22 u23 u24 u25 u26 u27 u28 u29 u30 u31 u32 u33 u34 u35 u36 u37 u38 u39 u40 u41 u42 u43 u44 u45 u46 u47 u48 u49 u50 u51 u52 u53 u54 u55 u56 u57 u58 u59 u60 u61 u62 u63 u64 u65 u66 u67 u68 u69 u70 u71 u72 u73 u74 u75 u76 u77 u78 u79 u80 u81 u82 u83 u84 u85 u86 u87 u88 u89 u90 u91 u92 u93 u94 u95 u96 u97 u98 u99 u100 u101 u102 u103 u104 u105 u106 u107 u108 u109 u110 u111 u112 u113 u114 u115 u116 u117 u118 u119 u120 u121 u122 u123 u124 u125 u126 u127 u128 u129 u130 u131 u132 u133 u134 u135 u136 u137 u138 u139 u140 u141 u142 u143 u144 u145 u146 u147 u148 u149 u150 u151 u152 u153 u154 : Value) (k bb wb : Nat) (w W : World) (r s sy sx t lf b q : Int) (Q : Exit → Act → World → Prop) (hk : k ≤ 2097152) (hd : Hd w W bb wb u6 u7 k r s sy sx t lf b q)
    (hQ : Hid (∀ (Y : World) (v16 v17 v123 v124 v125 v126 v127 v128 v129 v130 v131 v132 v133 v134 v135 v136 v137 v138 v139 v140 v141 v142 v143 v144 v145 v146 v147 v148 v149 v150 v151 v152 v153 v154 : Value), Below w.heap.size w Y → Q .ret ⟨#[u0, u1, u2, u3, .bool true, .pointer (some ⟨bb, 0, none⟩), u6, u7, u8, u9, u10, u11, u12, u13, u14, u15, v16, v17, u18, u19, u20, u21, u22, u23, u24, u25, u26, u27, u28, u29, u30, u31, u32, u33, u34, u35, u36, u37, u38, u39, u40, u41, u42, u43, u44, u45, u46, u47, u48, u49, u50, u51, u52, u53, u54, u55, u56, u57, u58, u59, u60, u61, u62, u63, u64, u65, u66, u67, u68, u69, u70, u71, u72, u73, u74, u75, u76, u77, u78, u79, u80, u81, u82, u83, u84, u85, u86, u87, u88, u89, u90, u91, u92, u93, u94, u95, u96, u97, u98, u99, u100, u101, u102, u103, u104, u105, u106, u107, u108, u109, u110, u111, u112, u113, u114, u115, u116, u117, u118, u119, u120, u121, u122, v123, v124, v125, v126, v127, v128, v129, v130, v131, v132, v133, v134, v135, v136, v137, v138, v139, v140, v141, v142, v143, v144, v145, v146, v147, v148, v149, v150, v151, v152, v153, v154], []⟩ Y)) :
    Code.wp Try.prog pfT27 Q ⟨#[u0, u1, u2, u3, u4, .pointer (some ⟨bb, 0, none⟩), u6, u7, u8, u9, u10, u11, u12, u13, u14, u15, u16, u17, u18, u19, u20, u21, u22, u23, u24, u25, u26, u27, u28, u29, u30, u31, u32, u33, u34, u35, u36, u37, u38, u39, u40, u41, u42, u43, u44, u45, u46, u47, u48, u49, u50, u51, u52, u53, u54, u55, u56, u57, u58, u59, u60, u61, u62, u63, u64, u65, u66, u67, u68, u69, u70, u71, u72, u73, u74, u75, u76, u77, u78, u79, u80, u81, u82, u83, u84, u85, u86, u87, u88, u89, u90, u91, u92, u93, u94, u95, u96, u97, u98, u99, u100, u101, u102, u103, u104, u105, u106, u107, u108, u109, u110, u111, u112, u113, u114, u115, u116, u117, u118, u119, u120, u121, u122, u123, u124, u125, u126, u127, u128, u129, u130, u131, u132, u133, u134, u135, u136, u137, u138, u139, u140, u141, u142, u143, u144, u145, u146, u147, u148, u149, u150, u151, u152, u153, u154], []⟩ W := by
  obtain ⟨S, vB, z, l, p, La, Lb, pf, -, mt, hp, hpk, hla⟩ := hd
  obtain ⟨pa, ka, rfl, ha⟩ := own_lenB pf.a
  obtain ⟨pb, kb, rfl, hb'⟩ := own_lenB pf.b
  have hlb := mt.len
  have HPF := hid1 pf
  have HMT := hid1 mt
  obtain ⟨nl, hnl⟩ : ∃ nl, La.length = nl := ⟨_, rfl⟩
  have HNL := hid1 hnl
  have HNB : Hid (Lb.length = nl) := hid1 (by rw [← hlb]; exact hnl)
  rw [hnl] at hla ha
  rw [HNB.out] at hb'
  rw [hnl, HNB.out] at hQ
  rw [hnl, HNB.out]
  clear pf mt hnl hlb
  conv => arg 2; whnf
  go_wp2_with fail
  go_loopw [16] (fun i wr => ∃ j : Nat, j ≤ nl ∧ i = .int .i64 j ∧ Below W.heap.size W wr) (fun i _ => nl - (intOf i).toNat)
  case atStart => exact ⟨0, Nat.zero_le _, rfl, Below.refl _ _⟩
  case round =>
    rename World => Y
    obtain ⟨j, hj, rfl, BY⟩ := hrel
    by_cases hjl : j < nl
    · obtain ⟨g1, rfl⟩ := ha (by omega)
      obtain ⟨g2, rfl⟩ := hb' (by omega)
      have hjA : j < La.length := by rw [HNL.out]; exact hjl
      have hjB : j < Lb.length := by rw [HNB.out]; exact hjl
      have KY := HMT.out.at j hjA hjB
      have AN := (HPF.out.an _ (List.getElem_mem hjA))
      have BN := (HPF.out.bn _ (List.getElem_mem hjB))
      obtain ⟨x, hx⟩ : ∃ x, La[j] = x := ⟨_, rfl⟩
      obtain ⟨y, hy⟩ : ∃ y, Lb[j] = y := ⟨_, rfl⟩
      have A5 := own_atF (f := faT) (by have := HPF.out.a; rw [HNL.out] at this ⊢; exact this) j hjA x hx
      have B5 := own_atF (f := fbT) (by have := HPF.out.b; rw [HNB.out] at this ⊢; exact this) j hjB y hy
      rw [hx] at AN KY
      rw [hy] at BN KY
      obtain ⟨xh, xv, xc, xe, xm, xN, xa, xb0, xk0⟩ := x
      obtain ⟨yh, yv, yc, ye, ym, yN, ya0, yb, yk⟩ := y
      simp only [ky, Prod.mk.injEq] at KY
      obtain ⟨rfl, rfl, rfl, rfl, rfl, rfl⟩ := KY
      dsimp only at AN BN A5 B5
      have hm := AN.2
      have W1 := hid1 (AN.1.wr.below BY)
      have W2 := hid1 ((BN.wr AN.1.lt).below BY)
      have HC := hid1 (kpF5 (And.intro A5 B5) BY)
      simp only [faT, fbT] at HC
      have HBY := hid1 BY
      have ij : (j : Int) < (nl : Int) := by omega
      have ij0 : (0 : Int) ≤ (j : Int) := by omega
      clear A5 B5 AN BN BY hx hy
      go_upto_region 30 with fail
      go_region_held3 (fun X => (X.cell? ⟨g1, j * 5, none⟩ = some (.int .i64 xh) ∧ X.cell? ⟨g1, j * 5 + 1, none⟩ = some (.int .i64 xv) ∧ X.cell? ⟨g1, j * 5 + 2, none⟩ = some (.int .i64 xc) ∧ X.cell? ⟨g1, j * 5 + 3, none⟩ = some (.slice xa xm xm) ∧ X.cell? ⟨g1, j * 5 + 4, none⟩ = some (.int .i64 xe)) ∧ X.cell? ⟨g2, j * 5, none⟩ = some (.int .i64 xh) ∧ X.cell? ⟨g2, j * 5 + 1, none⟩ = some (.int .i64 xv) ∧ X.cell? ⟨g2, j * 5 + 2, none⟩ = some (.int .i64 xc) ∧ X.cell? ⟨g2, j * 5 + 3, none⟩ = some (.slice yb xm yk) ∧ X.cell? ⟨g2, j * 5 + 4, none⟩ = some (.int .i64 xe))
        (((try dsimp only); (with_reducible refine kpF5 (W := Y) HC.out ?_); repeat (first | (with_reducible exact Below.refl _ _) | (with_reducible assumption) | (with_reducible refine Below.drew ?_))))
        ((go_at_call 7; refine (agree_true xh xv xc xe xm xN xa yb xm yk _ (by omega) (W1.out.below (Below.refl _ _).drew) (W2.out.below (Below.refl _ _).drew)).mono ?_; rintro e y2 ⟨rfl, hb⟩; have by1 : Below Y.heap.size Y y2 := bl_step (Below.refl _ _).drew hb; clear hb))
      go_wp2_with fail
      exact ⟨⟨j + 1, by omega, by go_num, bl_step HBY.out by1⟩, by simp [intOf]; omega⟩
    · obtain rfl : nl = j := by omega
      have HP4 := hid1 (HPF.out.below BY).p4
      clear HPF BY
      go_wp2_with fail
      go_loopw [17] (fun i wr => ∃ (j : Nat) (S1 : Nat → Prop) (v1 : Value) (z1 : Int) (l1 : List Br) (p1 : Nat), j ≤ nl ∧ i = .int .i64 j ∧ l1.length = 2 * p1 ∧ p1 ≤ p + j ∧ P4 w wr S1 bb (.slice pa nl ka) v1 z1 l1 La j) (fun i _ => nl - (intOf i).toNat)
      case atStart => exact ⟨0, S, vB, z, l, p, Nat.zero_le _, rfl, hp, by omega, by have := HP4.out; rw [HNL.out] at this; exact this⟩
      case round =>
        clear HP4
        rename World => V
        obtain ⟨j, S1, v1, z1, l1, p1, hj, rfl, hp1, hpj, p4⟩ := hrel
        by_cases hjl : j < nl
        · obtain ⟨g1, rfl⟩ := ha (by omega)
          have hjA : j < La.length := by rw [HNL.out]; exact hjl
          obtain ⟨x, hx⟩ : ∃ x, La[j] = x := ⟨_, rfl⟩
          have A5 := own_atF (f := faT) (by have := p4.a; rw [HNL.out] at this ⊢; exact this) j hjA x hx
          have HTK := hid1 (p4.take p1 hp1 (by omega) hjA x hx)
          obtain ⟨xh, xv, xc, xe, xm, xN, xa, xb0, xk0⟩ := x
          dsimp only at HTK A5
          simp only [faT] at A5
          obtain ⟨a0, a1, a2, a3, a4⟩ := A5
          have ij : (j : Int) < (nl : Int) := by omega
          have ij0 : (0 : Int) ≤ (j : Int) := by omega
          clear p4 hx
          go_wp2_with fail
          refine HTK.out.mono ?_
          rintro e Y2 ⟨rfl, S2, v2, z2, l2, p2, hp2, hpp, p4⟩
          go_wp2_with fail
          exact ⟨⟨j + 1, S2, v2, z2, l2, p2, by omega, by go_num, hp2, by omega, p4⟩, by simp [intOf]; omega⟩
        · obtain rfl : nl = j := by omega
          have HWH := hid1 (whole_any S1 bb w.heap.size v1 z1 l1 V (by omega) p4.bk)
          have HB := hid1 p4.bel
          clear p4
          go_wp2_with fail
          refine HWH.out.mono ?_
          rintro e Y2 ⟨rfl, rfl⟩
          go_wp2_with fail
          exact hQ.out _ _ _ _ _ _ _ _ _ _ _ _ _ _ _ _ _ _ _ _ _ _ _ _ _ _ _ _ _ _ _ _ _ _ _ HB.out
end Go.Proofs.Ytmbhapegdbajpaa
/- PoolFresh: the walk. -/
namespace Go.Proofs.Ytmbhapegdbajpaa
open Go.RowKit Go.Shelf

theorem rk_start {w w2 : World} {S : Nat → Prop} {bb : Nat} {va vb vB : Value} {z : Int} {l : List Br} {La Lb : List Tc} {wb ob Gx n N : Nat} {kd h v c : Int} {xo : Option Addr} {xc : Nat} {r s sy sx t lf b q : Int} (pf : Pf w w2 S bb w.heap.size va vb vB z l La Lb) (wi : w2.rowIs wb 24 8 (wnf r s sy sx t lf b q)) (oo : w2.rowIs ob 37 13 (opf kd h v c xo n xc r s sy sx t lf b q)) (rx : w2.rowIs Gx 47 (n + 66) (rmf N n)) : Rk w (w2.alloc (opo kd h v c (some ⟨Gx, 0, none⟩) n (n + 66) r s sy sx t lf b q)) S bb va vb vB z l La Lb wb ob w2.heap.size Gx n (rmf N n) kd h v c xo xc r s sy sx t lf b q :=
  ⟨pf.below (bl_alloc (Below.refl _ _) _), wi.alloc _, oo.alloc _, op_new w2 _ _ _ _ _ _ _ _ _ _ _ _ _ _ _, rx.alloc _⟩
theorem t1_start {w3 : World} {B : Nat} {S : Nat → Prop} {hh vv cc E : Int} {M X : Nat} {bo : Option Addr} (a : As B w3 S bo M X) : T1 (w3.alloc (too hh vv cc bo M M E)) B S w3.heap.size hh vv cc E M X bo := ⟨to_new w3 _ _ _ _ _ _ _, a.below (bl_alloc (Below.refl _ _) _)⟩
/-- The Book of nothing. -/
theorem pf_start {w W : World} (bb : Nat) (S : Nat → Prop) (hb : W.rowIs bb 29 2 (bkf (.slice none 0 0) 0)) (hw : w.heap.size ≤ bb) (B : Below w.heap.size w W) : Pf w W S bb w.heap.size (.slice none 0 0) (.slice none 0 0) (.slice none 0 0) 0 [] [] [] :=
  ⟨⟨hb, ⟨rfl, .inl ⟨rfl, rfl⟩⟩, fun i hi => by simp at hi⟩, ⟨rfl, .inl ⟨rfl, rfl⟩⟩, ⟨rfl, .inl ⟨rfl, rfl⟩⟩, .inl rfl, fun x hx => by simp at hx, fun x hx => by simp at hx, fun i j hi => by simp at hi, B, Nat.le_refl _, hw, B.size⟩
theorem bk_new (w : World) : (w.alloc (.cells #[.slice none 0 0, .int .i64 0] 29)).rowIs w.heap.size 29 2 (bkf (.slice none 0 0) 0) :=
  World.rowIs_alloc w _ _ _ (fun i hi => by
    rcases i with _ | _ | i
    all_goals first | rfl | (simp at hi; omega))
theorem kp12 {Z X : World} {g o0 k2 wb : Nat} {h v c : Int} {xo : Option Addr} {n xc : Nat} {r s sy sx t lf b q : Int} (k : (Z.cell? ⟨g, o0 + k2 * 4, none⟩ = some (.int .i64 h) ∧ Z.cell? ⟨g, o0 + k2 * 4 + 1, none⟩ = some (.int .i64 v) ∧ Z.cell? ⟨g, o0 + k2 * 4 + 2, none⟩ = some (.int .i64 c) ∧ Z.cell? ⟨g, o0 + k2 * 4 + 3, none⟩ = some (.slice xo n xc)) ∧ Z.cell? ⟨wb, 0, none⟩ = some (.int .i64 r) ∧ Z.cell? ⟨wb, 1, none⟩ = some (.int .i64 s) ∧ Z.cell? ⟨wb, 2, none⟩ = some (.int .i64 sy) ∧ Z.cell? ⟨wb, 3, none⟩ = some (.int .i64 sx) ∧ Z.cell? ⟨wb, 4, none⟩ = some (.int .i64 t) ∧ Z.cell? ⟨wb, 5, none⟩ = some (.int .i64 lf) ∧ Z.cell? ⟨wb, 6, none⟩ = some (.int .i64 b) ∧ Z.cell? ⟨wb, 7, none⟩ = some (.int .i64 q)) (hb : Below Z.heap.size Z X) : (X.cell? ⟨g, o0 + k2 * 4, none⟩ = some (.int .i64 h) ∧ X.cell? ⟨g, o0 + k2 * 4 + 1, none⟩ = some (.int .i64 v) ∧ X.cell? ⟨g, o0 + k2 * 4 + 2, none⟩ = some (.int .i64 c) ∧ X.cell? ⟨g, o0 + k2 * 4 + 3, none⟩ = some (.slice xo n xc)) ∧ X.cell? ⟨wb, 0, none⟩ = some (.int .i64 r) ∧ X.cell? ⟨wb, 1, none⟩ = some (.int .i64 s) ∧ X.cell? ⟨wb, 2, none⟩ = some (.int .i64 sy) ∧ X.cell? ⟨wb, 3, none⟩ = some (.int .i64 sx) ∧ X.cell? ⟨wb, 4, none⟩ = some (.int .i64 t) ∧ X.cell? ⟨wb, 5, none⟩ = some (.int .i64 lf) ∧ X.cell? ⟨wb, 6, none⟩ = some (.int .i64 b) ∧ X.cell? ⟨wb, 7, none⟩ = some (.int .i64 q) := by
  obtain ⟨⟨a0, a1, a2, a3⟩, b0, b1, b2, b3, b4, b5, b6, b7⟩ := k
  exact ⟨⟨keepc hb a0, keepc hb a1, keepc hb a2, keepc hb a3⟩, keepc hb b0, keepc hb b1, keepc hb b2, keepc hb b3, keepc hb b4, keepc hb b5, keepc hb b6, keepc hb b7⟩
theorem wn_cells {W : World} {g T : Nat} {r s sy sx t lf b q : Int} (k : W.rowIs g T 8 (wnf r s sy sx t lf b q)) : W.cell? ⟨g, 0, none⟩ = some (.int .i64 r) ∧ W.cell? ⟨g, 1, none⟩ = some (.int .i64 s) ∧ W.cell? ⟨g, 2, none⟩ = some (.int .i64 sy) ∧ W.cell? ⟨g, 3, none⟩ = some (.int .i64 sx) ∧ W.cell? ⟨g, 4, none⟩ = some (.int .i64 t) ∧ W.cell? ⟨g, 5, none⟩ = some (.int .i64 lf) ∧ W.cell? ⟨g, 6, none⟩ = some (.int .i64 b) ∧ W.cell? ⟨g, 7, none⟩ = some (.int .i64 q) :=
  ⟨k.cell (i := 0) (by omega), k.cell (i := 1) (by omega), k.cell (i := 2) (by omega), k.cell (i := 3) (by omega), k.cell (i := 4) (by omega), k.cell (i := 5) (by omega), k.cell (i := 6) (by omega), k.cell (i := 7) (by omega)⟩
set_option maxHeartbeats 25600000 in
set_option maxRecDepth 100000 in
theorem poolFresh_any (ao : Option Addr) (L cap : Nat) (r s sy sx t lf b q : Int) (w : World) (hL : L ≤ 1048576) (ra : LqU w ao L) :
    Calls Try.prog 3 #[.slice ao L cap, .agg #[.int .i64 r, .int .i64 s, .int .i64 sy, .int .i64 sx, .int .i64 t, .int .i64 lf, .int .i64 b, .int .i64 q]] w fun e w' => e = .returned (.bool true) ∧ Below w.heap.size w w' := by
  have RA := hid1 ra
  clear ra
  obtain ⟨wb, hwb⟩ : ∃ wb, w.heap.size = wb := ⟨_, rfl⟩
  have WN := wnf_new w r s sy sx t lf b q 24
  rw [hwb] at WN
  have HWN := hid1 WN
  have HWB := hid1 hwb
  clear WN
  go_enter Try.func3, Try.ntmps3
  go_wp2_with fail
  refine gen_calls (fun W => W.rowIs wb 24 8 (wnf r s sy sx t lf b q) ∧ Below w.heap.size w W) ⟨HWN.out, bl_alloc (Below.refl _ _) _⟩ ?_
  rintro w0 ⟨wi0, B0⟩
  refine (ubegun_any w0).mono ?_
  rintro e w1 ⟨rfl, hb⟩
  have wi1 := keepr hb wi0
  have B1 := bl_step B0 hb
  clear hb wi0 B0 HWN
  try rw [hwb]
  clear hwb
  go_upto_region 4 with fail
  obtain ⟨bb, hbb⟩ : ∃ bb, w1.heap.size = bb := ⟨_, rfl⟩
  have BK := bk_new w1
  rw [hbb] at BK
  have bbw : w.heap.size ≤ bb := by rw [← hbb]; exact B1.size
  have HHD : Hid (Hd w (w1.alloc (.cells #[.slice none 0 0, .int .i64 0] 29)) bb wb (.slice none 0 0) (.slice none 0 0) 0 r s sy sx t lf b q) := hid1 ⟨fun _ => True, _, _, _, 0, _, _, pf_start bb _ BK bbw (bl_alloc B1 _), wi1.alloc _, rfl, rfl, Nat.le_refl _, Nat.le_refl _⟩
  try rw [hbb]
  clear BK B1 wi1 hbb bbw
  go_upto_block 0 with fail
  go_cut [6, 7, 8, 9, 10, 11, 12, 13, 14, 15] from 22 to 122 (fun va vb (_ _ _ _ _ _ _ _ : Value) wx => Hd w wx bb wb va vb (2 * L) r s sy sx t lf b q)
  case first =>
    go_wp2_with fail
    go_loopw [6, 7, 8, 9] (fun va vb hd i wr => ∃ (k : Nat) (hd' : Int), k ≤ 2 * L ∧ i = .int .i64 k ∧ hd = .int .i64 hd' ∧ Hd w wr bb wb va vb k r s sy sx t lf b q) (fun _ _ _ i _ => 2 * L - (intOf i).toNat)
    case atStart => exact ⟨0, 0, Nat.zero_le _, rfl, rfl, HHD.out⟩
    case round =>
      clear HHD
      rename World => Z
      obtain ⟨k, hd', hk, rfl, rfl, S, vB, z, l, p, La, Lb, pf, wi, mt, hp, hpk, hla⟩ := hrel
      have iL : ((2 * L : Nat) : Int) = 2 * (L : Int) := by push_cast; rfl
      by_cases hlt : k < 2 * L
      · have ik : (k : Int) < 2 * (L : Int) := by omega
        obtain ⟨md, hmd⟩ : ∃ md, k % 2 = md := ⟨_, rfl⟩
        obtain ⟨k2, hk2⟩ : ∃ k2, k / 2 = k2 := ⟨_, rfl⟩
        have im : (k : Int) % 2 = (md : Int) := by omega
        have im' : (k : Int).tmod 2 = (md : Int) := by rw [Int.tmod_eq_emod_of_nonneg (by omega)]; exact im
        have iq : (k : Int) / 2 = (k2 : Int) := by omega
        have iq' : (k : Int).tdiv 2 = (k2 : Int) := by rw [Int.tdiv_eq_ediv_of_nonneg (by omega)]; exact iq
        have hk2L : k2 < L := by omega
        have ik2 : (k2 : Int) < (L : Int) := by omega
        have ik20 : (0 : Int) ≤ (k2 : Int) := by omega
        have md2 : md < 2 := by omega
        have wk2 : IntKind.i64.wrap (k2 : Int) = (k2 : Int) := by rw [IntKind.wrap_i64]; omega
        have wmd : IntKind.i64.wrap (1 + (md : Int)) = 1 + (md : Int) := by rw [IntKind.wrap_i64]; omega
        obtain ⟨g, o0, h, v, c, xo, n, xc, N, rfl, c4, wx, hn, -, -⟩ := RA.out k2 hk2L
        have HWX := hid1 wx
        have HRX : Hid (∀ W, Below w.heap.size w W → Wr W xo n N) := hid1 (fun W hb => HWX.out.below hb)
        obtain ⟨q0, q1, q2, q3⟩ := c4
        have c0 := keepc pf.bel q0
        have c1 := keepc pf.bel q1
        have c2 := keepc pf.bel q2
        have c3 := keepc pf.bel q3
        obtain ⟨e0, e1, e2, e3, e4, e5, e6, e7⟩ := wn_cells wi
        have HC12 := hid1 (show (Z.cell? ⟨g, o0 + k2 * 4, none⟩ = some (.int .i64 h) ∧ Z.cell? ⟨g, o0 + k2 * 4 + 1, none⟩ = some (.int .i64 v) ∧ Z.cell? ⟨g, o0 + k2 * 4 + 2, none⟩ = some (.int .i64 c) ∧ Z.cell? ⟨g, o0 + k2 * 4 + 3, none⟩ = some (.slice xo n xc)) ∧ Z.cell? ⟨wb, 0, none⟩ = some (.int .i64 r) ∧ Z.cell? ⟨wb, 1, none⟩ = some (.int .i64 s) ∧ Z.cell? ⟨wb, 2, none⟩ = some (.int .i64 sy) ∧ Z.cell? ⟨wb, 3, none⟩ = some (.int .i64 sx) ∧ Z.cell? ⟨wb, 4, none⟩ = some (.int .i64 t) ∧ Z.cell? ⟨wb, 5, none⟩ = some (.int .i64 lf) ∧ Z.cell? ⟨wb, 6, none⟩ = some (.int .i64 b) ∧ Z.cell? ⟨wb, 7, none⟩ = some (.int .i64 q) from ⟨⟨c0, c1, c2, c3⟩, e0, e1, e2, e3, e4, e5, e6, e7⟩)
        have lZ := lt_of_cell c0
        have lW := wi.lt
        have HPF := hid1 pf.more
        have HSP : Hid (∀ G, Z.heap.size ≤ G → Sep La Lb G) := hid1 (fun G hG => pf.sep hG)
        have HWI := hid1 wi
        have HMT := hid1 mt
        have hwZ := pf.bel.size
        have HU6 : Hid (∀ q, u6.ownBlock = some q → q < Z.heap.size) := hid1 (fun q hq => (pf.a.lt q hq).2)
        have HU7 : Hid (∀ q, u7.ownBlock = some q → q < Z.heap.size) := hid1 (fun q hq => (pf.b.lt q hq).2)
        clear wx q0 q1 q2 q3 pf wi mt hmd hk2
        go_upto_region 9 with fail
        go_cut [10] from 29 to 38 (fun s10 wx => s10 = .pointer (some ⟨Z.heap.size, 0, none⟩) ∧ wx.rowIs Z.heap.size 37 13 (opf (1 + (md : Int)) h v c xo n xc r s sy sx t lf b q) ∧ Below Z.heap.size Z wx)
        case first =>
          go_region_held3 (fun X => (X.cell? ⟨g, o0 + k2 * 4, none⟩ = some (.int .i64 h) ∧ X.cell? ⟨g, o0 + k2 * 4 + 1, none⟩ = some (.int .i64 v) ∧ X.cell? ⟨g, o0 + k2 * 4 + 2, none⟩ = some (.int .i64 c) ∧ X.cell? ⟨g, o0 + k2 * 4 + 3, none⟩ = some (.slice xo n xc)) ∧ X.cell? ⟨wb, 0, none⟩ = some (.int .i64 r) ∧ X.cell? ⟨wb, 1, none⟩ = some (.int .i64 s) ∧ X.cell? ⟨wb, 2, none⟩ = some (.int .i64 sy) ∧ X.cell? ⟨wb, 3, none⟩ = some (.int .i64 sx) ∧ X.cell? ⟨wb, 4, none⟩ = some (.int .i64 t) ∧ X.cell? ⟨wb, 5, none⟩ = some (.int .i64 lf) ∧ X.cell? ⟨wb, 6, none⟩ = some (.int .i64 b) ∧ X.cell? ⟨wb, 7, none⟩ = some (.int .i64 q)) (((try dsimp only); (with_reducible refine kp12 (Z := Z) HC12.out ?_); repeat (first | (with_reducible exact Below.refl _ _) | (with_reducible assumption) | (with_reducible refine Below.drew ?_) | (with_reducible refine bl_alloc ?_ _)))) (fail)
          all_goals (refine kmeet_of (by assumption) ?_; go_meet; exact ⟨rfl, (op_new Z _ _ _ _ _ _ _ _ _ _ _ _ _ _ _).drew, (bl_alloc (Below.refl _ _) _).drew⟩)
        case rest =>
          obtain ⟨rfl, oo, hb⟩ := hcut
          rename World => Z1
          have HPF1 := hid1 (HPF.out.below hb)
          have HWI1 := hid1 (keepr hb HWI.out)
          have lz1 := oo.lt
          have zz1 := hb.size
          clear hb HPF HWI HC12 c0 c1 c2 c3 e0 e1 e2 e3 e4 e5 e6 e7 lZ lW
          obtain ⟨ob, hob⟩ : ∃ ob, Z.heap.size = ob := ⟨_, rfl⟩
          have HOB := hid1 hob
          rw [hob] at oo lz1
          try rw [hob]
          clear hob
          obtain ⟨c0, c1, c2, c3, c4, c5, c6, c7, c8, c9, c10, c11, c12⟩ := op_cells oo
          have HOO := hid1 oo
          clear oo
          have HAL := hid1 (fun W r' => alone_any (1 + (md : Int)) h v c xo n xc N r s sy sx t lf b q W hn r')
          go_wp2_with fail
          refine (HAL.out Z1 (HRX.out Z1 HPF1.out.bel)).mono ?_
          rintro e w2 ⟨Gx, rfl, hGx, rx, hb⟩
          have HPF2 := hid1 (HPF1.out.below hb)
          have HWI2 := hid1 (keepr hb HWI1.out)
          have HOO2 := hid1 (keepr hb HOO.out)
          have lx := rx.lt
          have zz2 := hb.size
          have HRW := hid1 rx
          clear hb rx HPF1 HWI1 HOO HAL c0 c1 c2 c3 c4 c5 c6 c7 c8 c9 c10 c11 c12
          have hN := HWX.out.1
          have hM30 := sM_le (1 + (md : Int)) h v c n N r s sy sx t lf b q
          have HRN := hid1 (fun W r' => ran_any (1 + (md : Int)) h v c (some ⟨Gx, 0, none⟩) n (n + 66) N r s sy sx t lf b q W (Nat.le_add_right _ _) (by omega) r')
          have HRN2 := hid1 (fun G W r' => ran_any (1 + (md : Int)) h v c (some ⟨G, 0, none⟩) n (n + 66) N r s sy sx t lf b q W (Nat.le_add_right _ _) (by omega) r')
          generalize sH (1 + (md : Int)) h v c n N r s sy sx t lf b q = hh at *
          generalize sV (1 + (md : Int)) h v c n N r s sy sx t lf b q = vv at *
          generalize sC (1 + (md : Int)) h v c n N r s sy sx t lf b q = cc at *
          generalize sM (1 + (md : Int)) h v c n N r s sy sx t lf b q = M at *
          generalize sX (1 + (md : Int)) h v c n N r s sy sx t lf b q = X at *
          generalize sE (1 + (md : Int)) h v c n N r s sy sx t lf b q = E at *
          have M63 : M ≤ 9223372036854775807 := by omega
          go_wp2_with fail
          refine gen_calls (fun W => Rk w W (fun b => S b ∨ Z.heap.size ≤ b) bb u6 u7 vB z l La Lb wb ob w2.heap.size Gx n (rmf N n) (1 + (md : Int)) h v c xo xc r s sy sx t lf b q ∧ w2.heap.size ≤ W.heap.size) ⟨rk_start HPF2.out HWI2.out HOO2.out HRW.out, by simp⟩ ?_
          clear HPF2 HWI2 HOO2 HRW
          rintro W3 ⟨rk, z3⟩
          obtain ⟨bx, hbx⟩ : ∃ bx, w2.heap.size = bx := ⟨_, rfl⟩
          rw [hbx] at rk z3 lx zz2
          try rw [hbx]
          clear hbx
          refine (HRN.out W3 (rm_wr rk.rx hN)).mono ?_
          rintro e w3 ⟨bo1, rfl, nw1, hb⟩
          have A1 : As w.heap.size w3 (fun b => S b ∨ Z.heap.size ≤ b) bo1 M X := nw_as nw1 (fun b hb' => .inr (by have := HOB.out; omega)) rk.pf.bel.size
          have I1 := nw_in nw1
          replace rk := rk.below hb
          have y3 := hb.size
          clear hb nw1
          obtain ⟨c0, c1, c2, c3, c4, c5, c6, c7, c8, c9, c10, c11, c12⟩ := op_cells rk.xx
          have l3 := rk.xx.lt
          have HRK := hid1 rk
          have HA1 := hid1 A1
          clear rk A1
          go_wp2_with fail
          refine gen_calls (fun W => Rk w W (fun b => S b ∨ Z.heap.size ≤ b) bb u6 u7 vB z l La Lb wb ob bx Gx n (rmf N n) (1 + (md : Int)) h v c xo xc r s sy sx t lf b q ∧ T1 W w.heap.size (fun b => S b ∨ Z.heap.size ≤ b) w3.heap.size hh vv cc E M X bo1 ∧ w3.heap.size ≤ W.heap.size) ⟨HRK.out.below (bl_alloc (Below.refl _ _) _), t1_start HA1.out, by simp⟩ ?_
          clear HRK HA1 c0 c1 c2 c3 c4 c5 c6 c7 c8 c9 c10 c11 c12 l3
          rintro W4 ⟨rk, ta, z4⟩
          obtain ⟨b12, hb12⟩ : ∃ x, w3.heap.size = x := ⟨_, rfl⟩
          rw [hb12] at ta z4 y3 I1
          try rw [hb12]
          clear hb12
          refine (HRN.out W4 (rm_wr rk.rx hN)).mono ?_
          rintro e w4 ⟨bo2, rfl, nw2, hb⟩
          have A2 : As w.heap.size w4 (fun b => S b ∨ Z.heap.size ≤ b) bo2 M X := nw_as nw2 (fun b hb' => .inr (by have := HOB.out; omega)) rk.pf.bel.size
          have I2 := nw_in nw2
          replace rk := rk.below hb
          replace ta := ta.below hb
          have y4 := hb.size
          clear hb nw2
          obtain ⟨c0, c1, c2, c3, c4, c5, c6, c7, c8, c9, c10, c11, c12⟩ := op_cells rk.xx
          have l3 := rk.xx.lt
          have HRK := hid1 rk
          have HTA := hid1 ta
          have HA2 := hid1 A2
          clear rk ta A2
          go_wp2_with fail
          refine gen_calls (fun W => Rk w W (fun b => S b ∨ Z.heap.size ≤ b) bb u6 u7 vB z l La Lb wb ob bx Gx n (rmf N n) (1 + (md : Int)) h v c xo xc r s sy sx t lf b q ∧ T1 W w.heap.size (fun b => S b ∨ Z.heap.size ≤ b) b12 hh vv cc E M X bo1 ∧ T1 W w.heap.size (fun b => S b ∨ Z.heap.size ≤ b) w4.heap.size hh vv cc E M X bo2 ∧ w4.heap.size ≤ W.heap.size) ⟨HRK.out.below (bl_alloc (Below.refl _ _) _), HTA.out.below (bl_alloc (Below.refl _ _) _), t1_start HA2.out, by simp⟩ ?_
          clear HRK HTA HA2 c0 c1 c2 c3 c4 c5 c6 c7 c8 c9 c10 c11 c12 l3
          rintro W5 ⟨rk, ta, tb, z5⟩
          obtain ⟨b13, hb13⟩ : ∃ x, w4.heap.size = x := ⟨_, rfl⟩
          rw [hb13] at tb z5 y4 I2
          try rw [hb13]
          clear hb13
          refine (HRN.out W5 (rm_wr rk.rx hN)).mono ?_
          rintro e w5 ⟨bo3, rfl, nw3, hb⟩
          have A3 : As w.heap.size w5 (fun b => S b ∨ Z.heap.size ≤ b) bo3 M X := nw_as nw3 (fun b hb' => .inr (by have := HOB.out; omega)) rk.pf.bel.size
          have I3 := nw_in nw3
          replace rk := rk.below hb
          replace ta := ta.below hb
          replace tb := tb.below hb
          have y5 := hb.size
          clear hb nw3
          obtain ⟨d0, d1, d2, d3, d4⟩ := to_cells ta.t
          obtain ⟨e0, e1, e2, e3, e4⟩ := to_cells tb.t
          have l12 := ta.t.lt
          have l13 := tb.t.lt
          have HRK := hid1 rk
          have HTA := hid1 ta
          have HTB := hid1 tb
          have HA3 := hid1 A3
          clear rk ta tb A3
          go_wp2_with fail
          refine gen_calls (fun W => Rk w W (fun b => S b ∨ Z.heap.size ≤ b) bb u6 u7 vB z l La Lb wb ob bx Gx n (rmf N n) (1 + (md : Int)) h v c xo xc r s sy sx t lf b q ∧ T1 W w.heap.size (fun b => S b ∨ Z.heap.size ≤ b) b12 hh vv cc E M X bo1 ∧ T1 W w.heap.size (fun b => S b ∨ Z.heap.size ≤ b) b13 hh vv cc E M X bo2 ∧ T1 W w.heap.size (fun b => S b ∨ Z.heap.size ≤ b) w5.heap.size hh vv cc E M X bo3 ∧ w5.heap.size ≤ W.heap.size) ⟨HRK.out.below (bl_alloc (Below.refl _ _) _), HTA.out.below (bl_alloc (Below.refl _ _) _), HTB.out.below (bl_alloc (Below.refl _ _) _), t1_start HA3.out, by simp⟩ ?_
          clear HRK HTA HTB HA3 d0 d1 d2 d3 d4 e0 e1 e2 e3 e4 l12 l13
          rintro W6 ⟨rk, ta, tb, tc', z6⟩
          obtain ⟨b14, hb14⟩ : ∃ x, w5.heap.size = x := ⟨_, rfl⟩
          rw [hb14] at tc' z6 y5 I3
          try rw [hb14]
          clear hb14
          refine (agree_true hh vv cc E M X bo1 bo2 M M W6 M63 ta.a.wr tb.a.wr).mono ?_
          rintro e w6 ⟨rfl, hb⟩
          replace rk := rk.below hb
          replace ta := ta.below hb
          replace tb := tb.below hb
          replace tc' := tc'.below hb
          have y6 := hb.size
          clear hb
          obtain ⟨d0, d1, d2, d3, d4⟩ := to_cells tc'.t
          obtain ⟨e0, e1, e2, e3, e4⟩ := to_cells tb.t
          go_wp2_with fail
          refine (agree_true hh vv cc E M X bo3 bo2 M M w6 M63 tc'.a.wr tb.a.wr).mono ?_
          rintro e w7 ⟨rfl, hb⟩
          replace rk := rk.below hb
          replace ta := ta.below hb
          replace tb := tb.below hb
          replace tc' := tc'.below hb
          have y7 := hb.size
          clear hb d0 d1 d2 d3 d4 e0 e1 e2 e3 e4
          obtain ⟨c0, c1, c2, c3, c4, c5, c6, c7, c8, c9, c10, c11, c12⟩ := op_cells rk.xx
          obtain ⟨d0, d1, d2, d3, d4, d5, d6, d7, d8, d9, d10, d11, d12⟩ := op_cells rk.oo
          go_wp2_with fail
          refine (kept_true n N Gx xo xc w7 hn rk.rx (HRX.out w7 rk.pf.bel)).mono ?_
          rintro e w8 ⟨rfl, hb⟩
          replace rk := rk.below hb
          replace ta := ta.below hb
          replace tb := tb.below hb
          replace tc' := tc'.below hb
          have y8 := hb.size
          clear hb c0 c1 c2 c3 c4 c5 c6 c7 c8 c9 c10 c11 c12 d0 d1 d2 d3 d4 d5 d6 d7 d8 d9 d10 d11 d12
          obtain ⟨e0, e1, e2, e3, e4⟩ := to_cells tb.t
          have HRK := hid1 rk
          have HTA := hid1 ta
          have HTB := hid1 tb
          have HTC := hid1 tc'
          clear rk ta tb tc'
          go_upto_region 16 with fail
          go_cut [8] from 67 to 74 (fun s8 wx => (∃ z8 : Int, s8 = .int .i64 z8) ∧ wx = w8)
          case first =>
            as_aux_lemma =>
              go_wp2_with fail
              go_meet
              exact ⟨⟨_, rfl⟩, rfl⟩
          case rest =>
            obtain ⟨⟨z8, rfl⟩, rfl⟩ := hcut
            rename World => W8
            have u6lt : ∀ q, u6.ownBlock = some q → q < Z.heap.size := HU6.out
            have u7lt : ∀ q, u7.ownBlock = some q → q < Z.heap.size := HU7.out
            have lx12 := HTA.out.t.lt
            have lx13 := HTB.out.t.lt
            have hOB := HOB.out
            refine kgo (by assumption) ?_
            refine pf_t17 _ _ _ _ _ _ _ _ _ _ _ _ _ _ _ _ _ _ _ _ _ _ _ _ _ _ _ _ _ _ _ _ _ _ _ _ _ _ _ _ _ _ _ _ _ _ _ _ _ _ _ _ _ _ _ _ _ _ _ _ _ _ _ _ _ _ _ _ _ _ _ _ _ _ _ _ _ _ _ _ _ _ _ _ _ _ _ _ _ _ _ _ _ _ _ _ _ _ _ _ _ _ _ _ _ _ _ _ _ _ _ _ _ _ _ _ _ _ _ _ _ _ _ _ _ _ _ _ _ _ _ _ _ _ _ _ _ _ _ _ _ _ _ _ _ _ _ k bb ob bx b12 b13 b14 wb Gx z8 w W8 (fun b => S b ∨ Z.heap.size ≤ b) vB z l La Lb (1 + (md : Int)) h v c xo n xc N r s sy sx t lf b q hh vv cc E M X bo1 bo2 bo3 W3.heap.size b12 b13 b14 _ (by omega) (by omega) (fun b hb => .inr (by omega)) (by omega) (by omega) ⟨by omega, lx12⟩ ⟨by omega, lx13⟩ (fun q hq => by have := u6lt q hq; omega) (fun q hq => by have := u7lt q hq; omega) I1 (fun G e => by have := I2 G e; omega) (fun G e => by have := I3 G e; omega) (by omega) (by omega) (by omega) (hid1 (fun G hG => HSP.out G (by omega))) HMT HRK HTA HTB HTC p hp hpk (by omega) hla hN hn (by omega) (.inr (by omega)) HRX (hid1 (fun Y hY => alone_any (1 + (md : Int)) h v c xo n xc N r s sy sx t lf b q Y hn hY)) HRN2 (hid1 ?_)
            rintro Y va1 vb1 v15 v75 v76 v77 v78 v79 v80 v81 v82 v83 v84 v85 v86 v87 v88 v89 v90 v91 v92 v93 v94 v95 v96 v97 v98 v99 v100 v101 v102 v103 v104 v105 v106 v107 v108 v109 v110 v111 v112 v113 v114 v115 v116 v117 v118 v119 v120 v121 v122 hd1
            go_wp2_with fail
            exact ⟨⟨k + 1, _, by omega, by go_num, rfl, hd1⟩, by simp [intOf]; omega⟩
      · have hk2 : k = 2 * L := by omega
        have HHD : Hid (Hd w Z bb wb u6 u7 (2 * L) r s sy sx t lf b q) := hid1 (by rw [← hk2]; exact ⟨S, vB, z, l, p, La, Lb, pf, wi, mt, hp, hpk, hla⟩)
        have ik : ¬ (k : Int) < 2 * (L : Int) := by omega
        clear pf wi mt hp hpk hla
        go_wp2_with fail
        go_meet
        exact HHD.out
  case rest =>
    rename World => Y1
    have HCUT := hid1 hcut
    clear hcut HHD
    refine kgo (by assumption) ?_
    refine pf_t27 _ _ _ _ _ _ _ _ _ _ _ _ _ _ _ _ _ _ _ _ _ _ _ _ _ _ _ _ _ _ _ _ _ _ _ _ _ _ _ _ _ _ _ _ _ _ _ _ _ _ _ _ _ _ _ _ _ _ _ _ _ _ _ _ _ _ _ _ _ _ _ _ _ _ _ _ _ _ _ _ _ _ _ _ _ _ _ _ _ _ _ _ _ _ _ _ _ _ _ _ _ _ _ _ _ _ _ _ _ _ _ _ _ _ _ _ _ _ _ _ _ _ _ _ _ _ _ _ _ _ _ _ _ _ _ _ _ _ _ _ _ _ _ _ _ _ _ _ _ _ _ _ _ _ (2 * L) bb wb w Y1 r s sy sx t lf b q _ (by omega) HCUT.out (hid1 ?_)
    rintro Y v16 v17 v123 v124 v125 v126 v127 v128 v129 v130 v131 v132 v133 v134 v135 v136 v137 v138 v139 v140 v141 v142 v143 v144 v145 v146 v147 v148 v149 v150 v151 v152 v153 v154 hb
    refine bodyPost_ret (v := .bool true) (by simp [results, Try.results3, go_sem]) rfl ⟨rfl, hb⟩
end Go.Proofs.Ytmbhapegdbajpaa
namespace Go.Proofs.Ytmbhapegdbajpaa
open Go.ChangeShapes Go.WideShapes Go.ChangeAt Go.RowKit

set_option maxRecDepth 100000 in
theorem poolFreshUpto_lifted (os : Os) (started : os.Started) (H : Type) (enc : TypeId × Value → H) (F : Stop.Interp) :
    ReturnsInHanded {} Try.checked os 3 .any ((Rows.OpenSpec.upto Rows.poolFreshSpec).pre6 enc Try.prog Try.f3 Rows.poolFreshUptoRow.domain false) (((Rows.OpenSpec.upto Rows.poolFreshSpec).at F).post enc Try.prog Try.f3 false true false false) := by
  refine returnsInHanded_of_cond (C := Try.checked) (s := Rows.OpenSpec.upto Rows.poolFreshSpec) (k := Rows.uptoSmall) rfl own started (by kernel_rfl) Try.func3
    (OpenSpec.witness (enc := enc) (C := Try.checked) (s := Rows.OpenSpec.upto Rows.poolFreshSpec) (k := Rows.uptoSmall) rfl false ⟨#[], #[.slice none 0 0, .agg #[.int .i64 0, .int .i64 0, .int .i64 0, .int .i64 0, .int .i64 0, .int .i64 0, .int .i64 0, .int .i64 0]], []⟩ 16 (by kernel_rfl) (by kernel_rfl) (by kernel_rfl)
      (x := ([.nil, .agg [.lit (.int .i64 0), .lit (.int .i64 0), .lit (.int .i64 0), .lit (.int .i64 0), .lit (.int .i64 0), .lit (.int .i64 0), .lit (.int .i64 0), .lit (.int .i64 0)]], [], [])) (by kernel_rfl) rfl (by kernel_rfl)) ?_
  intro W base args ds gs before hval0 hW _ hk _
  have hval : ∀ (j : Nat) t v, Try.f3.params[j]? = some t → args[j]? = some v → Value.okWide Try.prog W .any base t v := hval0
  have hW' := hW
  obtain ⟨p, q, hA0, hV, rfl, hfz, hnd⟩ := hW
  have hA : DataW.TrodAll enc Try.prog W 0 (fun _ => true) true Try.f3.params.toList args.toList ds p := hA0
  rw [Try.params3] at hA hval
  obtain ⟨v0, vs0, d0, ds0, p0, q0, hargs, rfl, rfl, h0, r0⟩ := trodAll_cons hA
  obtain ⟨v1, vs1, d1, ds1, p1, q1, rfl, rfl, rfl, h1, r1⟩ := trodAll_cons r0
  obtain ⟨rfl, rfl, rfl⟩ := trodAll_nil r1
  obtain rfl : args = #[v0, v1] := by cases args; simp_all
  obtain ⟨rfl, rfl⟩ := trodVars_none hV
  have lt0 : ∀ x ∈ p0, x.block < W.heap.size := by obtain ⟨m, hm⟩ := h0; exact DataW.trod_lt m _ _ _ hm
  have k0 := h0
  have lt1 : ∀ x ∈ p1, x.block < W.heap.size := by obtain ⟨m, hm⟩ := h1; exact DataW.trod_lt m _ _ _ hm
  have k1 := h1
  have hz : Rows.uptoBulk d0 ≤ 1048576 := by
    have h : Rows.uptoBulkAll ([d0, d1] ++ []) ≤ 1048576 := of_decide_eq_true hk
    simp only [List.append_nil, Rows.uptoBulkAll] at h
    omega
  obtain ⟨ao, K, cap, rfl, hK, hL⟩ := open_cubessB (hval 0 22 v0 rfl rfl) h0 hz
  obtain ⟨wa, wb, wc, wd, we, wf, wg, wh, rfl⟩ := open_win (hval 1 24 v1 rfl rfl) h1
  clear hA0 hval0
  refine (poolFresh_any ao K cap wa wb wc wd we wf wg wh W hK hL).mono fun e W' ⟨he, bel⟩ => ?_
  subst he
  exact ⟨_, rfl, _, _, _, [], _, [], hW', trodAll_mk1 (shut_bool Try.underlying4 _), (trodAll_cons_mk (Below.trod laidOut (by kernel_rfl) (of_decide_eq_true (by kernel_rfl)) k0 bel lt0) (trodAll_cons_mk (Below.trod laidOut (by kernel_rfl) (of_decide_eq_true (by kernel_rfl)) k1 bel lt1) trodAll_mk0)), rfl, bel.frame _, fun h => by cases h⟩

theorem poolFreshUpto_holds : Rows.PoolFreshUptoSaid :=
  OpenClaim.holds_of_cond 3 Try.f3 rfl rfl rfl rfl rfl rfl rfl ⟨rfl, rfl, rfl, rfl, rfl⟩ rfl rfl rfl rfl rfl (by kernel_rfl) Try.func3 (by kernel_rfl)
    (of_decide_eq_true (by kernel_rfl)) (by unfold Func.isWrapper; first | (rw [if_pos (by decide +kernel)]; kernel_rfl) | (rw [if_neg (by decide +kernel)]; exact ⟨rfl, rfl⟩))
    (fun os started H enc _ F => poolFreshUpto_lifted os started H enc F)
#print axioms poolFreshUpto_holds
end Go.Proofs.Ytmbhapegdbajpaa
