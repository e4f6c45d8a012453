import Derived.Test.YtmbhapegdbajpaaQFPoolFreshUpto
import Derived.Test.YtmbhapegdbajpaaQAPoolFreshUpto
import Derived.Deep.RegionLaw
import Derived.Deep.RegionHeld3
import Derived.Deep.DeepCutAuto
/- PoolFresh: a round's memory. -/
namespace Go.Proofs.Ytmbhapegdbajpaa
open Go.RowKit Go.Shelf

/-- What an answer tells. -/
def ky (x : Tc) : Int × Int × Int × Int × Nat × Nat := (x.h, x.v, x.c, x.e, x.m, x.N)
def Mt (La Lb : List Tc) : Prop := La.map ky = Lb.map ky
theorem Mt.two {La Lb : List Tc} (h : Mt La Lb) {x y x' y' : Tc} (hx : ky x = ky x') (hy : ky y = ky y') : Mt (La ++ [x, y]) (Lb ++ [x', y']) := by
  unfold Mt at h ⊢
  simp [h, hx, hy]
theorem Mt.len {La Lb : List Tc} (h : Mt La Lb) : La.length = Lb.length := by
  have := congrArg List.length h
  simpa using this
theorem Mt.at {La Lb : List Tc} (h : Mt La Lb) (i : Nat) (h1 : i < La.length) (h2 : i < Lb.length) : ky La[i] = ky Lb[i] := by
  have e : (La.map ky)[i]? = (Lb.map ky)[i]? := by rw [show La.map ky = Lb.map ky from h]
  simpa [h1, h2] using e
/-- No list of these lies in the block. -/
def Sep (La Lb : List Tc) (G : Nat) : Prop := (∀ x ∈ La, x.ao ≠ some ⟨G, 0, none⟩) ∧ ∀ x ∈ Lb, x.bo ≠ some ⟨G, 0, none⟩
theorem Pf.sep {w W : World} {S : Nat → Prop} {bb base : Nat} {va vb vB : Value} {z : Int} {l : List Br} {La Lb : List Tc} (h : Pf w W S bb base va vb vB z l La Lb) {G : Nat} (hG : W.heap.size ≤ G) : Sep La Lb G := by
  refine ⟨fun x hx e => ?_, fun x hx e => ?_⟩
  · rcases (h.an x hx).1 with ⟨e1, _⟩ | ⟨G1, e1, row, _⟩
    · rw [e1] at e; cases e
    · rw [e1] at e; cases e; have := row.lt; omega
  · rcases h.bn x hx with ⟨e1, _⟩ | ⟨G1, K, f, e1, row, _⟩
    · rw [e1] at e; cases e
    · rw [e1] at e; cases e; have := row.lt; omega
theorem Sep.appA {La Lb : List Tc} {G : Nat} (h : Sep La Lb G) {x y : Tc} (hx : x.ao ≠ some ⟨G, 0, none⟩) (hy : y.ao ≠ some ⟨G, 0, none⟩) : Sep (La ++ [x, y]) Lb G :=
  ⟨fun q hq => by rcases List.mem_append.1 hq with hq | hq; exact h.1 q hq; simp at hq; rcases hq with rfl | rfl; exact hx; exact hy, h.2⟩
theorem Sep.appB {La Lb : List Tc} {G : Nat} (h : Sep La Lb G) {x y : Tc} (hx : x.bo ≠ some ⟨G, 0, none⟩) (hy : y.bo ≠ some ⟨G, 0, none⟩) : Sep La (Lb ++ [x, y]) G :=
  ⟨h.1, fun q hq => by rcases List.mem_append.1 hq with hq | hq; exact h.2 q hq; simp at hq; rcases hq with rfl | rfl; exact hx; exact hy⟩
/-- A round's memory: all that is kept, the window, the step, the step with its own list. -/
structure Rk (w W : World) (S : Nat → Prop) (bb : Nat) (va vb vB : Value) (z : Int) (l : List Br) (La Lb : List Tc) (wb ob bx Gx n : Nat) (fx : Nat → Value) (kd h v c : Int) (xo : Option Addr) (xc : Nat) (r s sy sx t lf b q : Int) : Prop where
  pf : Pf w W S bb w.heap.size va vb vB z l La Lb
  wi : W.rowIs wb 24 8 (wnf r s sy sx t lf b q)
  oo : W.rowIs ob 37 13 (opf kd h v c xo n xc r s sy sx t lf b q)
  xx : W.rowIs bx 37 13 (opf kd h v c (some ⟨Gx, 0, none⟩) n (n + 66) r s sy sx t lf b q)
  rx : W.rowIs Gx 47 (n + 66) fx
theorem Rk.below {w W W' : World} {S : Nat → Prop} {bb : Nat} {va vb vB : Value} {z : Int} {l : List Br} {La Lb : List Tc} {wb ob bx Gx n : Nat} {fx : Nat → Value} {kd h v c : Int} {xo : Option Addr} {xc : Nat} {r s sy sx t lf b q : Int} (k : Rk w W S bb va vb vB z l La Lb wb ob bx Gx n fx kd h v c xo xc r s sy sx t lf b q) (hb : Below W.heap.size W W') : Rk w W' S bb va vb vB z l La Lb wb ob bx Gx n fx kd h v c xo xc r s sy sx t lf b q := ⟨k.pf.below hb, keepr hb k.wi, keepr hb k.oo, keepr hb k.xx, keepr hb k.rx⟩
/-- An answer in its box, its words. -/
structure T1 (W : World) (B : Nat) (S : Nat → Prop) (bt : Nat) (hh vv cc E : Int) (M X : Nat) (bo : Option Addr) : Prop where
  t : W.rowIs bt 41 5 (tof hh vv cc bo M M E)
  a : As B W S bo M X
theorem As.below {B : Nat} {W W' : World} {S : Nat → Prop} {ao : Option Addr} {m N : Nat} (h : As B W S ao m N) (hb : Below W.heap.size W W') : As B W' S ao m N := h.fb (FB.of_below hb) (fun _ _ x => x)
theorem T1.below {W W' : World} {B : Nat} {S : Nat → Prop} {bt : Nat} {hh vv cc E : Int} {M X : Nat} {bo : Option Addr} (k : T1 W B S bt hh vv cc E M X bo) (hb : Below W.heap.size W W') : T1 W' B S bt hh vv cc E M X bo := ⟨keepr hb k.t, k.a.below hb⟩
theorem nw_as {B : Nat} {W W' : World} {S : Nat → Prop} {bo : Option Addr} {M X : Nat} (h : Nw W W' bo M X) (hS : ∀ b, W.heap.size ≤ b → S b) (hB : B ≤ W.heap.size) : As B W' S bo M X := by
  rcases h with h | ⟨G, e, hG, row, hX⟩
  · exact .inl h
  · exact .inr ⟨G, e, row, hX, hS G hG, by omega⟩
theorem nw_in {W W' : World} {bo : Option Addr} {M X : Nat} (h : Nw W W' bo M X) : ∀ G, bo = some ⟨G, 0, none⟩ → W.heap.size ≤ G ∧ G < W'.heap.size := fun G e => by
  rcases h with ⟨e1, _⟩ | ⟨G1, e1, hG, row, _⟩
  · rw [e1] at e; cases e
  · rw [e1] at e; cases e; exact ⟨hG, row.lt⟩
theorem row_own {w : World} {base : Nat} {e t : TypeId} {size b n k : Nat} {v : Value} {xs : List Value} {f : Nat → Value} (h : w.ownsRow base e size v n xs) (r : w.rowIs b t k f) (ht : e ≠ t) : ¬ v.ownBlock = some b := own_row_neU h r ht
/-- Behind take: what is in no block that it writes. -/
theorem rows_neU {w : World} {a b t u n m : Nat} {f g : Nat → Value} (r : w.rowIs a t n f) (q : w.rowIs b u m g) (ht : t ≠ u) : a ≠ b := fun e => by
  subst e
  exact ht (tell_row r q)
theorem Rk.take {w W W' : World} {S S' : Nat → Prop} {bb : Nat} {va vb vB vB' : Value} {z z' : Int} {l l' : List Br} {La Lb : List Tc} {wb ob bx Gx n m : Nat} {fx fl : Nat → Value} {kd h v c : Int} {xo lo : Option Addr} {xc : Nat} {r s sy sx t lf b q : Int} (k : Rk w W S bb va vb vB z l La Lb wb ob bx Gx n fx kd h v c xo xc r s sy sx t lf b q) (pf' : Pf w W' S' bb w.heap.size va vb vB' z' l' La Lb) (fb : FB (fun k => k = bb ∨ lo = some ⟨k, 0, none⟩ ∨ vB.ownBlock = some k) W W') (lw : ∀ G, lo = some ⟨G, 0, none⟩ → W.rowIs G 47 m fl) (hx : lo ≠ some ⟨Gx, 0, none⟩) : Rk w W' S' bb va vb vB' z' l' La Lb wb ob bx Gx n fx kd h v c xo xc r s sy sx t lf b q := by
  have ne : ∀ {g T n} {f : Nat → Value}, W.rowIs g T n f → T ≠ 47 → T ≠ 29 → T ≠ 33 → ¬ (g = bb ∨ lo = some ⟨g, 0, none⟩ ∨ vB.ownBlock = some g) := fun r h1 h2 h3 x => by
    rcases x with x | x | x
    · exact rows_neU r k.pf.bk.bo h2 x
    · exact rows_neU r (lw _ x) h1 rfl
    · exact row_own k.pf.bk.ow r (Ne.symm h3) x
  refine ⟨pf', fb.row k.wi (ne k.wi (by decide) (by decide) (by decide)), fb.row k.oo (ne k.oo (by decide) (by decide) (by decide)), fb.row k.xx (ne k.xx (by decide) (by decide) (by decide)), fb.row k.rx (fun x => ?_)⟩
  rcases x with x | x | x
  · exact rows_neU k.rx k.pf.bk.bo (by decide) x
  · exact hx x
  · exact row_own k.pf.bk.ow k.rx (by decide) x
theorem T1.take {w W W' : World} {S S' : Nat → Prop} {bb : Nat} {va vb vB : Value} {z : Int} {l : List Br} {La Lb : List Tc} {base m B bt : Nat} {lo : Option Addr} {fl : Nat → Value} {hh vv cc E : Int} {M X : Nat} {bo : Option Addr} (k : T1 W B S bt hh vv cc E M X bo) (pf : Pf w W S bb base va vb vB z l La Lb) (fb : FB (fun k => k = bb ∨ lo = some ⟨k, 0, none⟩ ∨ vB.ownBlock = some k) W W') (lw : ∀ G, lo = some ⟨G, 0, none⟩ → W.rowIs G 47 m fl) (hx : ∀ G, bo = some ⟨G, 0, none⟩ → lo ≠ some ⟨G, 0, none⟩) (hS : ∀ G, bo = some ⟨G, 0, none⟩ → S G → S' G) : T1 W' B S' bt hh vv cc E M X bo := by
  refine ⟨fb.row k.t (fun x => ?_), (k.a.fb fb (fun G e x => ?_)).set hS⟩
  · rcases x with x | x | x
    · exact rows_neU k.t pf.bk.bo (by decide) x
    · exact rows_neU k.t (lw _ x) (by decide) rfl
    · exact row_own pf.bk.ow k.t (by decide) x
  · rcases k.a with ⟨e1, _⟩ | ⟨G1, e1, row, _⟩
    · rw [e1] at e; cases e
    · rw [e1] at e
      cases e
      rcases x with x | x | x
      · exact rows_neU row pf.bk.bo (by decide) x
      · exact hx _ e1 x
      · exact row_own pf.bk.ow row (by decide) x
/-- The step's own list is written over. -/
theorem Rk.fill {w W W' : World} {S : Nat → Prop} {bb : Nat} {va vb vB : Value} {z : Int} {l : List Br} {La Lb : List Tc} {wb ob bx Gx n : Nat} {fx : Nat → Value} {kd h v c : Int} {xo : Option Addr} {xc : Nat} {r s sy sx t lf b q : Int} (k : Rk w W S bb va vb vB z l La Lb wb ob bx Gx n fx kd h v c xo xc r s sy sx t lf b q) (bt : But Gx W W') (hS : S Gx) (hw : w.heap.size ≤ Gx) (sp : Sep La Lb Gx) {fy : Nat → Value} (row : W'.rowIs Gx 47 (n + 66) fy) : Rk w W' S bb va vb vB z l La Lb wb ob bx Gx n fy kd h v c xo xc r s sy sx t lf b q :=
  ⟨k.pf.fb (FB.of_but bt) (fun _ e => by subst e; exact ⟨hS, hw, ⟨_, _, k.rx⟩, sp.1, sp.2⟩), bt.row (rows_neU k.wi k.rx (by decide)) k.wi, bt.row (rows_neU k.oo k.rx (by decide)) k.oo, bt.row (rows_neU k.xx k.rx (by decide)) k.xx, row⟩
theorem T1.fill {W W' : World} {B : Nat} {S : Nat → Prop} {bt Gx n : Nat} {fx : Nat → Value} {hh vv cc E : Int} {M X : Nat} {bo : Option Addr} (k : T1 W B S bt hh vv cc E M X bo) (bu : But Gx W W') (rx : W.rowIs Gx 47 n fx) (hx : bo ≠ some ⟨Gx, 0, none⟩) : T1 W' B S bt hh vv cc E M X bo :=
  ⟨bu.row (rows_neU k.t rx (by decide)) k.t, k.a.fb (FB.of_but bu) (fun G e x => by subst x; exact hx e)⟩
end Go.Proofs.Ytmbhapegdbajpaa
/- PoolFresh: pieces. -/
namespace Go.Proofs.Ytmbhapegdbajpaa
open Go.RowKit Go.Shelf

def regionOf (n : Nat) : Code → Option Code
  | .region id ops b => if id = n then some (.region id ops b) else none
  | .seq a b => match regionOf n a with
    | some c => some c
    | none => regionOf n b
  | .block _ c => regionOf n c
  | .scope c => regionOf n c
  | .loop c => regionOf n c
  | .cond _ a b => match regionOf n a with
    | some c => some c
    | none => regionOf n b
  | _ => none
def isReg (n : Nat) : Code → Bool
  | .region id _ _ => id == n
  | _ => false
def isBlk (n : Nat) : Code → Bool
  | .block id _ => id == n
  | _ => false
def fromP (p : Code → Bool) : Code → Option Code
  | .region id ops b => if p (.region id ops b) then some (.region id ops b) else none
  | .seq a b => if p a then some (.seq a b) else match fromP p a with
    | some c => some c
    | none => fromP p b
  | .block _ c => fromP p c
  | .scope c => fromP p c
  | .loop c => fromP p c
  | .cond _ a b => match fromP p a with
    | some c => some c
    | none => fromP p b
  | _ => none
theorem kgo {P : Program} {c : Code} {Q : Exit → Act → World → Prop} {K : Act → World → Prop} {a : Act} {w : World} (h : ∀ a w, c.wp P Q a w → K a w) (h2 : c.wp P Q a w) : K a w := h _ _ h2
theorem ten_one (x y : Tc) : ∀ u ∈ tenL fbT x y, u.oneCell' = true := fun u hu => by
  simp [tenL, fbT] at hu
  rcases hu with rfl | rfl | rfl | rfl | rfl | rfl | rfl | rfl | rfl | rfl <;> rfl
theorem cp_ac {w Y : World} {S : Nat → Prop} {bo : Option Addr} {m N : Nat} (h : Cp w Y bo m N) (hS : ∀ b, w.heap.size ≤ b → S b) : Ac Y S bo m N := by
  rcases h with h | ⟨G, K, f, e, hG, row, hK, hf⟩
  · exact .inl h
  · exact .inr ⟨G, K, f, e, row, hK, hf, hS G hG⟩
theorem cp_in {w Y : World} {bo : Option Addr} {m N : Nat} (h : Cp w Y bo m N) : ∀ G, bo = some ⟨G, 0, none⟩ → w.heap.size ≤ G := fun G e => by
  rcases h with ⟨e1, _⟩ | ⟨G1, K, f, e1, hG, _⟩
  · rw [e1] at e; cases e
  · rw [e1] at e; cases e; exact hG
theorem Ac.below {W W' : World} {S : Nat → Prop} {bo : Option Addr} {m N : Nat} (h : Ac W S bo m N) (hb : Below W.heap.size W W') : Ac W' S bo m N := h.fb (FB.of_below hb) (fun _ _ x => x)
/-- What region 19 leaves. -/
def E19 (w W : World) (S : Nat → Prop) (bb : Nat) (va vb vB : Value) (z : Int) (l : List Br) (La Lb : List Tc) (hh vv cc E : Int) (M X : Nat) (bo2 : Option Addr) (v2 : Value) (w9 : World) : Prop := ∃ bo4 k4 bo5 k5, Pf w w9 S bb w.heap.size va v2 vB z l La (Lb ++ [⟨hh, vv, cc, E, M, X, bo2, bo4, k4⟩, ⟨hh, vv, cc, E, M, X, bo2, bo5, k5⟩]) ∧ FB (fun k => vb.ownBlock = some k) W w9 ∧ (∀ G, bo4 = some ⟨G, 0, none⟩ ∨ bo5 = some ⟨G, 0, none⟩ → W.heap.size ≤ G)
theorem r19_end {w W Y w9 : World} {S : Nat → Prop} {bb : Nat} {va vb vB v2 : Value} {z : Int} {l : List Br} {La Lb : List Tc} {x y : Tc} (pf : Pf w W S bb w.heap.size va vb vB z l La Lb) (hb : Below W.heap.size W Y) (ow : w9.ownsRow w.heap.size 41 5 v2 (Lb.length + 2) (tcg fbT Lb ++ tenL fbT x y)) (gr : (Y.alloc (two fbT x y)).grownBy w9 vb.ownBlock) (at9 : v2.ownBlock = vb.ownBlock ∨ v2.ownBlock = some (Y.heap.size + 1)) (hx : Ac Y S x.bo x.m x.N) (hy : Ac Y S y.bo y.m y.N) (nx : ∀ G, x.bo = some ⟨G, 0, none⟩ → W.heap.size ≤ G) (ny : ∀ G, y.bo = some ⟨G, 0, none⟩ → W.heap.size ≤ G) :
    Pf w w9 S bb w.heap.size va v2 vB z l La (Lb ++ [x, y]) ∧ FB (fun k => vb.ownBlock = some k) W w9 ∧ (∀ G, x.bo = some ⟨G, 0, none⟩ ∨ y.bo = some ⟨G, 0, none⟩ → W.heap.size ≤ G) := by
  have ba : Below Y.heap.size Y (Y.alloc (two fbT x y)) := bl_alloc (Below.refl _ _) _
  refine ⟨pf.appB (bl_step hb ba) x y ow gr ?_ (hx.below ba) (hy.below ba), ((FB.refl _ W).below (bl_step hb ba)).grown gr (fun r e => .inl e), fun G e => ?_⟩
  · rcases at9 with e | e
    · exact .inl e
    · exact .inr ⟨_, e, by have := hb.size; omega⟩
  · rcases e with e | e
    · exact nx G e
    · exact ny G e
noncomputable def pfR19 : Code := (Try.f3.body.bind (regionOf 19)).getD .skip
attribute [local go_sem ↓] Go.wp_at_zero Go.wp_at_succ
set_option maxHeartbeats 12800000 in
set_option maxRecDepth 100000 in
theorem pf_r19 (u0 u1 u2 u3 u4 u5 u6 u7 u8 u9 u10 u11 u12 u14 u15 u16 u17 u18 u19 u20 u21 u22 u23 u24 u25 u26 u27 u28 u29 u30 u31 u32 u33 u34 u35 u36 u37 u38 u39 u40 u41 u42 u43 u44 u45 u46 u47 u48 u49 u50 u51 u52 u53 u54 u55 u56 u57 u58 u59 u60 u61 u62 u63 u64 u65 u66 u67 u68 u69 u70 u71 u72 u73 u74 u75 u76 u77 u78 u79 u80 u81 u82 u83 u84 u85 u86 u87 u88 u89 u90 u91 u92 u93 u94 u95 u96 u97 u98 u99 u100 u101 u102 u103 u104 u105 u106 u107 u108 u109 u110 u111 u112 u113 u114 u115 u116 u117 u118 u119 u120 u121 u122 u123 u124 u125 u126 u127 u128 u129 u130 u131 u132 u133 u134 u135 u136 u137 u138 u139 u140 u141 u142 u143 u144 u145 u146 u147 u148 u149 u150 u151 u152 u153 u154 : Value) (b13 : Nat) (w W : World) (S : Nat → Prop) (bb : Nat) (va vB : Value) (z : Int) (l : List Br) (La Lb : List Tc) (hh vv cc E : Int) (M X : Nat) (bo2 : Option Addr) (Q : Exit → Act → World → Prop) (hM : M ≤ 1073741824) (hLb : Lb.length ≤ 1099511627776) (HPF : Hid (Pf w W S bb w.heap.size va u7 vB z l La Lb)) (HT : Hid (T1 W w.heap.size S b13 hh vv cc E M X bo2)) (HS : Hid (∀ b, W.heap.size ≤ b → S b))
    (hQ : Hid (∀ (w9 : World) (v2 v82 v83 v84 v85 v86 v87 v88 : Value), E19 w W S bb va u7 vB z l La Lb hh vv cc E M X bo2 v2 w9 → Q .normal ⟨#[u0, u1, u2, u3, u4, u5, u6, v2, u8, u9, u10, u11, u12, .pointer (some ⟨b13, 0, none⟩), u14, u15, u16, u17, u18, u19, u20, u21, u22, u23, u24, u25, u26, u27, u28, u29, u30, u31, u32, u33, u34, u35, u36, u37, u38, u39, u40, u41, u42, u43, u44, u45, u46, u47, u48, u49, u50, u51, u52, u53, u54, u55, u56, u57, u58, u59, u60, u61, u62, u63, u64, u65, u66, u67, u68, u69, u70, u71, u72, u73, u74, u75, u76, u77, u78, u79, u80, u81, v82, v83, v84, v85, v86, v87, v88, u89, u90, u91, u92, u93, u94, u95, u96, u97, u98, u99, u100, u101, u102, u103, u104, u105, u106, u107, u108, u109, u110, u111, u112, u113, u114, u115, u116, u117, u118, u119, u120, u121, u122, u123, u124, u125, u126, u127, u128, u129, u130, u131, u132, u133, u134, u135, u136, u137, u138, u139, u140, u141, u142, u143, u144, u145, u146, u147, u148, u149, u150, u151, u152, u153, u154], []⟩ w9)) :
    Code.wp Try.prog pfR19 Q ⟨#[u0, u1, u2, u3, u4, u5, u6, u7, u8, u9, u10, u11, u12, .pointer (some ⟨b13, 0, none⟩), u14, u15, u16, u17, u18, u19, u20, u21, u22, u23, u24, u25, u26, u27, u28, u29, u30, u31, u32, u33, u34, u35, u36, u37, u38, u39, u40, u41, u42, u43, u44, u45, u46, u47, u48, u49, u50, u51, u52, u53, u54, u55, u56, u57, u58, u59, u60, u61, u62, u63, u64, u65, u66, u67, u68, u69, u70, u71, u72, u73, u74, u75, u76, u77, u78, u79, u80, u81, u82, u83, u84, u85, u86, u87, u88, u89, u90, u91, u92, u93, u94, u95, u96, u97, u98, u99, u100, u101, u102, u103, u104, u105, u106, u107, u108, u109, u110, u111, u112, u113, u114, u115, u116, u117, u118, u119, u120, u121, u122, u123, u124, u125, u126, u127, u128, u129, u130, u131, u132, u133, u134, u135, u136, u137, u138, u139, u140, u141, u142, u143, u144, u145, u146, u147, u148, u149, u150, u151, u152, u153, u154], []⟩ W := by
  conv => arg 2; whnf
  have HWR : Hid (∀ Y, Below W.heap.size W Y → Wr Y bo2 M X) := hid1 (fun Y hb => HT.out.a.wr.below hb)
  have HOW : Hid (∀ Y, Below W.heap.size W Y → Y.ownsRow w.heap.size 41 5 u7 Lb.length (tcg fbT Lb)) := hid1 (fun Y hb => own_keepU HPF.out.b hb)
  have HCL : Hid (∀ Y, Below W.heap.size W Y → Y.cell? ⟨b13, 0, none⟩ = some (.int .i64 hh) ∧ Y.cell? ⟨b13, 1, none⟩ = some (.int .i64 vv) ∧ Y.cell? ⟨b13, 2, none⟩ = some (.int .i64 cc) ∧ Y.cell? ⟨b13, 3, none⟩ = some (.slice bo2 M M) ∧ Y.cell? ⟨b13, 4, none⟩ = some (.int .i64 E)) := hid1 (fun Y hb => to_cells (keepr hb HT.out.t))
  obtain ⟨d0, d1, d2, d3, d4⟩ := HCL.out W (Below.refl _ _)
  have hwW : w.heap.size ≤ W.heap.size := HPF.out.bel.size
  refine wp_region_noPanic ?_
  go_region_law (first
    | (refine step_appU rfl (.tmp 82) (.tmp 87) rfl w.heap.size u7 Lb.length (tcg fbT Lb) (by go_simp) (HOW.out _ (by repeat (first | (with_reducible exact Below.refl _ _) | (with_reducible assumption) | (with_reducible refine Below.drew ?_) | (with_reducible refine bl_alloc ?_ _)))) ⟨y2.heap.size, 0, none⟩ (tenL fbT ⟨hh, vv, cc, E, M, X, bo2, bo4, k4⟩ ⟨hh, vv, cc, E, M, X, bo2, bo5, k5⟩) (by go_simp) rfl (two_cells fbT ⟨hh, vv, cc, E, M, X, bo2, bo4, k4⟩ ⟨hh, vv, cc, E, M, X, bo2, bo5, k5⟩ y2) (ten_one _ _) (by omega) (by simp; omega) ?_; intro v2 w9 ow9 gr9 at9; have END := hid1 (r19_end (x := ⟨hh, vv, cc, E, M, X, bo2, bo4, k4⟩) (y := ⟨hh, vv, cc, E, M, X, bo2, bo5, k5⟩) HPF.out b2 ow9 gr9 (by simpa using at9) A4' A5 N4 N5))
    | (refine step_appU rfl (.tmp 82) (.tmp 87) rfl w.heap.size u7 Lb.length (tcg fbT Lb) (by go_simp) (HOW.out _ (by repeat (first | (with_reducible exact Below.refl _ _) | (with_reducible assumption) | (with_reducible refine Below.drew ?_) | (with_reducible refine bl_alloc ?_ _)))) ⟨y2.heap.size, 0, none⟩ (tenL fbT ⟨hh, vv, cc, E, M, X, bo2, bo5, k5⟩ ⟨hh, vv, cc, E, M, X, bo2, bo4, k4⟩) (by go_simp) rfl (two_cells fbT ⟨hh, vv, cc, E, M, X, bo2, bo5, k5⟩ ⟨hh, vv, cc, E, M, X, bo2, bo4, k4⟩ y2) (ten_one _ _) (by omega) (by simp; omega) ?_; intro v2 w9 ow9 gr9 at9; have END := hid1 (r19_end (x := ⟨hh, vv, cc, E, M, X, bo2, bo5, k5⟩) (y := ⟨hh, vv, cc, E, M, X, bo2, bo4, k4⟩) HPF.out b2 ow9 gr9 (by simpa using at9) A4' A5 N4 N5))
    | (have tst := FST; go_simp; go_at_call 9; refine (copied_any hh vv cc E bo2 M X _ hM (HWR.out _ (by repeat (first | (with_reducible exact Below.refl _ _) | (with_reducible assumption) | (with_reducible refine Below.drew ?_) | (with_reducible refine bl_alloc ?_ _))))).mono ?_; rintro e y2 ⟨bo5, k5, rfl, cp5, hb5⟩; have b2 : Below W.heap.size W y2 := bl_step (by repeat (first | (with_reducible exact Below.refl _ _) | (with_reducible assumption) | (with_reducible refine Below.drew ?_) | (with_reducible refine bl_alloc ?_ _))) hb5; have b12 : Below y1.heap.size y1 y2 := bl_step (by repeat (first | (with_reducible exact Below.refl _ _) | (with_reducible assumption) | (with_reducible refine Below.drew ?_) | (with_reducible refine bl_alloc ?_ _))) hb5; have A5 : Ac y2 S bo5 M X := cp_ac cp5 (fun b hb => HS.out b (Nat.le_trans b1.size hb)); have N5 : ∀ G, bo5 = some ⟨G, 0, none⟩ → W.heap.size ≤ G := fun G e => Nat.le_trans b1.size (cp_in cp5 G e); have A4' := A4.below b12; have hy2 : w.heap.size ≤ y2.heap.size := Nat.le_trans hwW b2.size; obtain ⟨d0, d1, d2, d3, d4⟩ := HCL.out y2 b2; clear hb5 cp5)
    | (go_simp; go_at_call 9; refine (copied_any hh vv cc E bo2 M X _ hM (HWR.out _ (by repeat (first | (with_reducible exact Below.refl _ _) | (with_reducible assumption) | (with_reducible refine Below.drew ?_) | (with_reducible refine bl_alloc ?_ _))))).mono ?_; rintro e y1 ⟨bo4, k4, rfl, cp4, hb4⟩; have b1 : Below W.heap.size W y1 := bl_step (by repeat (first | (with_reducible exact Below.refl _ _) | (with_reducible assumption) | (with_reducible refine Below.drew ?_) | (with_reducible refine bl_alloc ?_ _))) hb4; have A4 : Ac y1 S bo4 M X := cp_ac cp4 (fun b hb => HS.out b hb); have N4 : ∀ G, bo4 = some ⟨G, 0, none⟩ → W.heap.size ≤ G := fun G e => cp_in cp4 G e; have FST := hid1 b1; obtain ⟨d0, d1, d2, d3, d4⟩ := HCL.out y1 b1; clear hb4 cp4))
  all_goals (refine NoPanic.normal ?_)
  all_goals (first | (refine hQ.out _ _ _ _ _ _ _ _ _ ⟨bo4, k4, bo5, k5, END.out.1, END.out.2.1, fun G e => END.out.2.2 G e⟩) | (refine hQ.out _ _ _ _ _ _ _ _ _ ⟨bo5, k5, bo4, k4, END.out.1, END.out.2.1, fun G e => END.out.2.2 G e⟩))
end Go.Proofs.Ytmbhapegdbajpaa
/- PoolFresh: region 25. -/
namespace Go.Proofs.Ytmbhapegdbajpaa
open Go.RowKit Go.Shelf

theorem kp18 {W Y : World} {ob b13 : Nat} {kd h v c : Int} {xo : Option Addr} {n xc : Nat} {r s sy sx t lf b q : Int} {hh vv cc E : Int} {M : Nat} {bo2 : Option Addr} (k : (W.cell? ⟨ob, 0, none⟩ = some (.int .i64 kd) ∧ W.cell? ⟨ob, 1, none⟩ = some (.int .i64 h) ∧ W.cell? ⟨ob, 2, none⟩ = some (.int .i64 v) ∧ W.cell? ⟨ob, 3, none⟩ = some (.int .i64 c) ∧ W.cell? ⟨ob, 4, none⟩ = some (.slice xo n xc) ∧ W.cell? ⟨ob, 5, none⟩ = some (.int .i64 r) ∧ W.cell? ⟨ob, 6, none⟩ = some (.int .i64 s) ∧ W.cell? ⟨ob, 7, none⟩ = some (.int .i64 sy) ∧ W.cell? ⟨ob, 8, none⟩ = some (.int .i64 sx) ∧ W.cell? ⟨ob, 9, none⟩ = some (.int .i64 t) ∧ W.cell? ⟨ob, 10, none⟩ = some (.int .i64 lf) ∧ W.cell? ⟨ob, 11, none⟩ = some (.int .i64 b) ∧ W.cell? ⟨ob, 12, none⟩ = some (.int .i64 q)) ∧ W.cell? ⟨b13, 0, none⟩ = some (.int .i64 hh) ∧ W.cell? ⟨b13, 1, none⟩ = some (.int .i64 vv) ∧ W.cell? ⟨b13, 2, none⟩ = some (.int .i64 cc) ∧ W.cell? ⟨b13, 3, none⟩ = some (.slice bo2 M M) ∧ W.cell? ⟨b13, 4, none⟩ = some (.int .i64 E)) (hb : Below W.heap.size W Y) : (Y.cell? ⟨ob, 0, none⟩ = some (.int .i64 kd) ∧ Y.cell? ⟨ob, 1, none⟩ = some (.int .i64 h) ∧ Y.cell? ⟨ob, 2, none⟩ = some (.int .i64 v) ∧ Y.cell? ⟨ob, 3, none⟩ = some (.int .i64 c) ∧ Y.cell? ⟨ob, 4, none⟩ = some (.slice xo n xc) ∧ Y.cell? ⟨ob, 5, none⟩ = some (.int .i64 r) ∧ Y.cell? ⟨ob, 6, none⟩ = some (.int .i64 s) ∧ Y.cell? ⟨ob, 7, none⟩ = some (.int .i64 sy) ∧ Y.cell? ⟨ob, 8, none⟩ = some (.int .i64 sx) ∧ Y.cell? ⟨ob, 9, none⟩ = some (.int .i64 t) ∧ Y.cell? ⟨ob, 10, none⟩ = some (.int .i64 lf) ∧ Y.cell? ⟨ob, 11, none⟩ = some (.int .i64 b) ∧ Y.cell? ⟨ob, 12, none⟩ = some (.int .i64 q)) ∧ Y.cell? ⟨b13, 0, none⟩ = some (.int .i64 hh) ∧ Y.cell? ⟨b13, 1, none⟩ = some (.int .i64 vv) ∧ Y.cell? ⟨b13, 2, none⟩ = some (.int .i64 cc) ∧ Y.cell? ⟨b13, 3, none⟩ = some (.slice bo2 M M) ∧ Y.cell? ⟨b13, 4, none⟩ = some (.int .i64 E) := by
  obtain ⟨⟨a0, a1, a2, a3, a4, a5, a6, a7, a8, a9, a10, a11, a12⟩, b0, b1, b2, b3, b4⟩ := k
  exact ⟨⟨keepc hb a0, keepc hb a1, keepc hb a2, keepc hb a3, keepc hb a4, keepc hb a5, keepc hb a6, keepc hb a7, keepc hb a8, keepc hb a9, keepc hb a10, keepc hb a11, keepc hb a12⟩, keepc hb b0, keepc hb b1, keepc hb b2, keepc hb b3, keepc hb b4⟩
noncomputable def pfR25 : Code := (Try.f3.body.bind (regionOf 25)).getD .skip
attribute [local go_sem ↓] Go.wp_at_zero Go.wp_at_succ
set_option maxHeartbeats 12800000 in
set_option maxRecDepth 100000 in
theorem pf_r25 (u0 u1 u2 u3 u4 u6 u7 u8 u11 u12 u14 u15 u16 u17 u18 u19 u20 u21 u22 u23 u24 u25 u26 u27 u28 u29 u30 u31 u32 u33 u34 u35 u36 u37 u38 u39 u40 u41 u42 u43 u44 u45 u46 u47 u48 u49 u50 u51 u52 u53 u54 u55 u56 u57 u58 u59 u60 u61 u62 u63 u64 u65 u66 u67 u68 u69 u70 u71 u72 u73 u74 u75 u76 u77 u78 u79 u80 u81 u82 u83 u84 u85 u86 u87 u88 u89 u90 u91 u92 u93 u94 u95 u96 u97 u98 u99 u100 u101 u102 u103 u104 u105 u106 u107 u108 u109 u110 u111 u112 u113 u114 u115 u116 u117 u118 u119 u120 u121 u122 u123 u124 u125 u126 u127 u128 u129 u130 u131 u132 u133 u134 u135 u136 u137 u138 u139 u140 u141 u142 u143 u144 u145 u146 u147 u148 u149 u150 u151 u152 u153 u154 : Value) (k bb ob b13 : Nat) (W : World) (kd h v c : Int) (xo : Option Addr) (n xc N : Nat) (r s sy sx t lf b q : Int) (hh vv cc E : Int) (M X : Nat) (bo2 : Option Addr) (Q : Exit → Act → World → Prop) (M63 : M ≤ 9223372036854775807) (hN : N < 2 ^ (64 * n)) (hk : k ≤ 9223372036854775807)
    (HC : Hid ((W.cell? ⟨ob, 0, none⟩ = some (.int .i64 kd) ∧ W.cell? ⟨ob, 1, none⟩ = some (.int .i64 h) ∧ W.cell? ⟨ob, 2, none⟩ = some (.int .i64 v) ∧ W.cell? ⟨ob, 3, none⟩ = some (.int .i64 c) ∧ W.cell? ⟨ob, 4, none⟩ = some (.slice xo n xc) ∧ W.cell? ⟨ob, 5, none⟩ = some (.int .i64 r) ∧ W.cell? ⟨ob, 6, none⟩ = some (.int .i64 s) ∧ W.cell? ⟨ob, 7, none⟩ = some (.int .i64 sy) ∧ W.cell? ⟨ob, 8, none⟩ = some (.int .i64 sx) ∧ W.cell? ⟨ob, 9, none⟩ = some (.int .i64 t) ∧ W.cell? ⟨ob, 10, none⟩ = some (.int .i64 lf) ∧ W.cell? ⟨ob, 11, none⟩ = some (.int .i64 b) ∧ W.cell? ⟨ob, 12, none⟩ = some (.int .i64 q)) ∧ W.cell? ⟨b13, 0, none⟩ = some (.int .i64 hh) ∧ W.cell? ⟨b13, 1, none⟩ = some (.int .i64 vv) ∧ W.cell? ⟨b13, 2, none⟩ = some (.int .i64 cc) ∧ W.cell? ⟨b13, 3, none⟩ = some (.slice bo2 M M) ∧ W.cell? ⟨b13, 4, none⟩ = some (.int .i64 E)))
    (HWH : Hid (∀ Y, Below W.heap.size W Y → Calls Try.prog 11 #[.pointer (some ⟨bb, 0, none⟩)] Y fun e w' => e = .returned (.bool true) ∧ w' = Y))
    (HWR : Hid (∀ Y, Below W.heap.size W Y → Wr Y bo2 M X))
    (HAL : Hid (∀ Y, Below W.heap.size W Y → Calls Try.prog 5 #[opv kd h v c xo n xc r s sy sx t lf b q] Y fun e w' => ∃ G, e = .returned (opv kd h v c (some ⟨G, 0, none⟩) n (n + 66) r s sy sx t lf b q) ∧ Y.heap.size ≤ G ∧ w'.rowIs G 47 (n + 66) (rmf N n) ∧ Below Y.heap.size Y w'))
    (HRN : Hid (∀ G Y, Wr Y (some ⟨G, 0, none⟩) n N → Calls Try.prog 6 #[opv kd h v c (some ⟨G, 0, none⟩) n (n + 66) r s sy sx t lf b q] Y fun e w' => ∃ bo, e = .returned (tov hh vv cc bo M M E) ∧ Nw Y w' bo M X ∧ Below Y.heap.size Y w'))
    (hQ : Hid (∀ (Y : World) (v107 v108 v109 v110 v111 v112 v113 v114 v115 v116 v117 v118 v119 v120 v121 : Value), Below W.heap.size W Y → Q .normal ⟨#[u0, u1, u2, u3, u4, .pointer (some ⟨bb, 0, none⟩), u6, u7, u8, .int .i64 (k : Int), .pointer (some ⟨ob, 0, none⟩), u11, u12, .pointer (some ⟨b13, 0, none⟩), u14, u15, u16, u17, u18, u19, u20, u21, u22, u23, u24, u25, u26, u27, u28, u29, u30, u31, u32, u33, u34, u35, u36, u37, u38, u39, u40, u41, u42, u43, u44, u45, u46, u47, u48, u49, u50, u51, u52, u53, u54, u55, u56, u57, u58, u59, u60, u61, u62, u63, u64, u65, u66, u67, u68, u69, u70, u71, u72, u73, u74, u75, u76, u77, u78, u79, u80, u81, u82, u83, u84, u85, u86, u87, u88, u89, u90, u91, u92, u93, u94, u95, u96, u97, u98, u99, u100, u101, u102, u103, u104, u105, u106, v107, v108, v109, v110, v111, v112, v113, v114, v115, v116, v117, v118, v119, v120, v121, .bool false, u123, u124, u125, u126, u127, u128, u129, u130, u131, u132, u133, u134, u135, u136, u137, u138, u139, u140, u141, u142, u143, u144, u145, u146, u147, u148, u149, u150, u151, u152, u153, u154], []⟩ Y)) :
    Code.wp Try.prog pfR25 Q ⟨#[u0, u1, u2, u3, u4, .pointer (some ⟨bb, 0, none⟩), u6, u7, u8, .int .i64 (k : Int), .pointer (some ⟨ob, 0, none⟩), u11, u12, .pointer (some ⟨b13, 0, none⟩), u14, u15, u16, u17, u18, u19, u20, u21, u22, u23, u24, u25, u26, u27, u28, u29, u30, u31, u32, u33, u34, u35, u36, u37, u38, u39, u40, u41, u42, u43, u44, u45, u46, u47, u48, u49, u50, u51, u52, u53, u54, u55, u56, u57, u58, u59, u60, u61, u62, u63, u64, u65, u66, u67, u68, u69, u70, u71, u72, u73, u74, u75, u76, u77, u78, u79, u80, u81, u82, u83, u84, u85, u86, u87, u88, u89, u90, u91, u92, u93, u94, u95, u96, u97, u98, u99, u100, u101, u102, u103, u104, u105, u106, u107, u108, u109, u110, u111, u112, u113, u114, u115, u116, u117, u118, u119, u120, u121, u122, u123, u124, u125, u126, u127, u128, u129, u130, u131, u132, u133, u134, u135, u136, u137, u138, u139, u140, u141, u142, u143, u144, u145, u146, u147, u148, u149, u150, u151, u152, u153, u154], []⟩ W := by
  conv => arg 2; whnf
  obtain ⟨mm, hmm⟩ : ∃ mm, k % 64 = mm := ⟨_, rfl⟩
  have im : (k : Int) % 64 = (mm : Int) := by omega
  have im' : (k : Int).tmod 64 = (mm : Int) := by rw [Int.tmod_eq_emod_of_nonneg (by omega)]; exact im
  clear hmm
  refine wp_region_noPanic ?_
  by_cases h63 : mm = 63
  · subst h63
    go_region_held3 (fun Y => (Y.cell? ⟨ob, 0, none⟩ = some (.int .i64 kd) ∧ Y.cell? ⟨ob, 1, none⟩ = some (.int .i64 h) ∧ Y.cell? ⟨ob, 2, none⟩ = some (.int .i64 v) ∧ Y.cell? ⟨ob, 3, none⟩ = some (.int .i64 c) ∧ Y.cell? ⟨ob, 4, none⟩ = some (.slice xo n xc) ∧ Y.cell? ⟨ob, 5, none⟩ = some (.int .i64 r) ∧ Y.cell? ⟨ob, 6, none⟩ = some (.int .i64 s) ∧ Y.cell? ⟨ob, 7, none⟩ = some (.int .i64 sy) ∧ Y.cell? ⟨ob, 8, none⟩ = some (.int .i64 sx) ∧ Y.cell? ⟨ob, 9, none⟩ = some (.int .i64 t) ∧ Y.cell? ⟨ob, 10, none⟩ = some (.int .i64 lf) ∧ Y.cell? ⟨ob, 11, none⟩ = some (.int .i64 b) ∧ Y.cell? ⟨ob, 12, none⟩ = some (.int .i64 q)) ∧ Y.cell? ⟨b13, 0, none⟩ = some (.int .i64 hh) ∧ Y.cell? ⟨b13, 1, none⟩ = some (.int .i64 vv) ∧ Y.cell? ⟨b13, 2, none⟩ = some (.int .i64 cc) ∧ Y.cell? ⟨b13, 3, none⟩ = some (.slice bo2 M M) ∧ Y.cell? ⟨b13, 4, none⟩ = some (.int .i64 E))
      (((try dsimp only); (with_reducible refine kp18 (W := W) HC.out ?_); repeat (first | (with_reducible exact Below.refl _ _) | (with_reducible assumption) | (with_reducible refine Below.drew ?_))))
      (first
        | (go_at_call 11; refine (HWH.out _ (by repeat (first | (with_reducible exact Below.refl _ _) | (with_reducible assumption) | (with_reducible refine Below.drew ?_) | (with_reducible refine bl_alloc ?_ _)))).mono ?_; rintro e y4 ⟨rfl, rfl⟩)
        | (go_at_call 7; refine (agree_true hh vv cc E M X bo9 bo2 M M _ M63 (W9.below (by repeat (first | (with_reducible exact Below.refl _ _) | (with_reducible refine Below.drew ?_)))) (HWR.out _ (by repeat (first | (with_reducible exact Below.refl _ _) | (with_reducible assumption) | (with_reducible refine Below.drew ?_) | (with_reducible refine bl_alloc ?_ _))))).mono ?_; rintro e y3 ⟨rfl, hb3⟩; have b3 : Below W.heap.size W y3 := bl_step (by repeat (first | (with_reducible exact Below.refl _ _) | (with_reducible assumption) | (with_reducible refine Below.drew ?_) | (with_reducible refine bl_alloc ?_ _))) hb3; clear hb3)
        | (go_at_call 6; refine (HRN.out G9 _ (rm_wr (keepr (W := y1) (by repeat (first | (with_reducible exact Below.refl _ _) | (with_reducible refine Below.drew ?_))) row9) hN)).mono ?_; rintro e y2 ⟨bo9, rfl, nw9, hb2⟩; have b2 : Below W.heap.size W y2 := bl_step (by repeat (first | (with_reducible exact Below.refl _ _) | (with_reducible assumption) | (with_reducible refine Below.drew ?_) | (with_reducible refine bl_alloc ?_ _))) hb2; have W9 := nw9.wr; clear hb2 nw9)
        | (go_at_call 5; refine (HAL.out _ (by repeat (first | (with_reducible exact Below.refl _ _) | (with_reducible assumption) | (with_reducible refine Below.drew ?_) | (with_reducible refine bl_alloc ?_ _)))).mono ?_; rintro e y1 ⟨G9, rfl, hG9, row9, hb1⟩; have b1 : Below W.heap.size W y1 := bl_step (by repeat (first | (with_reducible exact Below.refl _ _) | (with_reducible assumption) | (with_reducible refine Below.drew ?_) | (with_reducible refine bl_alloc ?_ _))) hb1; clear hb1))
    all_goals (refine NoPanic.normal ?_)
    all_goals (exact hQ.out _ _ _ _ _ _ _ _ _ _ _ _ _ _ _ _ (by repeat (first | (with_reducible exact Below.refl _ _) | (with_reducible assumption) | (with_reducible refine Below.drew ?_) | (with_reducible refine bl_alloc ?_ _))))
  · have h63' : ((mm : Int) == 63) = false := by simp; omega
    have h63'' : decide ((mm : Int) = 63) = false := by simp; omega
    have hn1 : decide (mm = 63) = false := by simp; omega
    have hn2 : (mm == 63) = false := by simp; omega
    have hn3 : (mm = 63) = False := by simp; omega
    clear h63
    refine wp_region_held_drew (S := fun Y => (Y.cell? ⟨ob, 0, none⟩ = some (.int .i64 kd) ∧ Y.cell? ⟨ob, 1, none⟩ = some (.int .i64 h) ∧ Y.cell? ⟨ob, 2, none⟩ = some (.int .i64 v) ∧ Y.cell? ⟨ob, 3, none⟩ = some (.int .i64 c) ∧ Y.cell? ⟨ob, 4, none⟩ = some (.slice xo n xc) ∧ Y.cell? ⟨ob, 5, none⟩ = some (.int .i64 r) ∧ Y.cell? ⟨ob, 6, none⟩ = some (.int .i64 s) ∧ Y.cell? ⟨ob, 7, none⟩ = some (.int .i64 sy) ∧ Y.cell? ⟨ob, 8, none⟩ = some (.int .i64 sx) ∧ Y.cell? ⟨ob, 9, none⟩ = some (.int .i64 t) ∧ Y.cell? ⟨ob, 10, none⟩ = some (.int .i64 lf) ∧ Y.cell? ⟨ob, 11, none⟩ = some (.int .i64 b) ∧ Y.cell? ⟨ob, 12, none⟩ = some (.int .i64 q)) ∧ Y.cell? ⟨b13, 0, none⟩ = some (.int .i64 hh) ∧ Y.cell? ⟨b13, 1, none⟩ = some (.int .i64 vv) ∧ Y.cell? ⟨b13, 2, none⟩ = some (.int .i64 cc) ∧ Y.cell? ⟨b13, 3, none⟩ = some (.slice bo2 M M) ∧ Y.cell? ⟨b13, 4, none⟩ = some (.int .i64 E)) follows (kp18 HC.out (Below.refl _ _).drew) (fun hS0 => ?_)
    refine wpAnyH_take (i := 0) (v := opv kd h v c xo n xc r s sy sx t lf b q) rfl (by kernel_rfl) (by kernel_rfl) (by kernel_rfl) (fun _ _ _ h => h) (Or.inl ⟨by rfl, fun w hSw => by (try dsimp only at hSw); go_simp⟩) hS0 ?_
    simp only [Act.put]
    refine wpAnyH_take (i := 3) (v := tov hh vv cc bo2 M M E) rfl (by kernel_rfl) (by kernel_rfl) (by kernel_rfl) (fun _ _ _ h => h) (Or.inl ⟨by rfl, fun w hSw => by (try dsimp only at hSw); go_simp⟩) hS0 ?_
    simp only [Act.put]
    refine wpAnyH_ready (rs := [1]) (by kernel_rfl) (by simp) ?_
    refine AllReadyH.cons rfl (fun K hK => ?_) AllReadyH.nil
    go_simp
    refine (HAL.out _ (Below.refl _ _).drew).mono ?_
    rintro e y1 ⟨G9, rfl, hG9, row9, hb1⟩
    have b1 : Below W.heap.size W y1 := bl_step (Below.refl _ _).drew hb1
    clear hb1
    refine hK.out _ _ (kp18 HC.out b1) (fun hS1 => ?_)
    clear hK K
    refine wpAnyH_ready (rs := [2]) (by kernel_rfl) (by simp) ?_
    refine AllReadyH.cons rfl (fun K hK => ?_) AllReadyH.nil
    go_simp
    refine (HRN.out G9 _ (rm_wr row9 hN)).mono ?_
    rintro e y2 ⟨bo9, rfl, nw9, hb2⟩
    have b2 : Below W.heap.size W y2 := bl_step b1 hb2
    have W9 := nw9.wr
    clear hb2 nw9
    refine hK.out _ _ (kp18 HC.out b2) (fun hS2 => ?_)
    clear hK K
    refine wpAnyH_ready (rs := [4]) (by kernel_rfl) (by simp) ?_
    refine AllReadyH.cons rfl (fun K hK => ?_) AllReadyH.nil
    go_simp
    refine (agree_true hh vv cc E M X bo9 bo2 M M _ M63 W9 (HWR.out _ b2)).mono ?_
    rintro e y3 ⟨rfl, hb3⟩
    have b3 : Below W.heap.size W y3 := bl_step b2 hb3
    clear hb3
    refine hK.out _ _ (kp18 HC.out b3) (fun hS3 => ?_)
    clear hK K
    refine wpAnyH_take (i := 5) (v := .bool false) rfl (by kernel_rfl) (by kernel_rfl) (by kernel_rfl) (fun _ _ _ h => h) (Or.inl ⟨by rfl, fun w hSw => by (try dsimp only at hSw); go_simp⟩) hS3 ?_
    simp only [Act.put]
    refine wpAnyH_take (i := 6) (v := .bool false) rfl (by kernel_rfl) (by kernel_rfl) (by kernel_rfl) (fun _ _ _ h => h) (Or.inl ⟨by rfl, fun w hSw => by (try dsimp only at hSw); go_simp⟩) hS3 ?_
    simp only [Act.put]
    refine wpAnyH_take (i := 7) (v := .int .i64 (k : Int)) rfl (by kernel_rfl) (by kernel_rfl) (by kernel_rfl) (fun _ _ _ h => h) (Or.inl ⟨by rfl, fun w hSw => by (try dsimp only at hSw); go_simp⟩) hS3 ?_
    simp only [Act.put]
    refine wpAnyH_take (i := 8) (v := .int .i64 (mm : Int)) rfl (by kernel_rfl) (by kernel_rfl) (by kernel_rfl) (fun _ _ _ h => h) (Or.inl ⟨by rfl, fun w hSw => by (try dsimp only at hSw); go_simp⟩) hS3 ?_
    simp only [Act.put]
    refine wpAnyH_take (i := 9) (v := .bool false) rfl (by kernel_rfl) (by kernel_rfl) (by kernel_rfl) (fun _ _ _ h => h) (Or.inl ⟨by rfl, fun w hSw => by (try dsimp only at hSw); go_simp⟩) hS3 ?_
    simp only [Act.put]
    refine wpAnyH_take (i := 10) (v := .bool false) rfl (by kernel_rfl) (by kernel_rfl) (by kernel_rfl) (fun _ _ _ h => h) (Or.inl ⟨by rfl, fun w hSw => by (try dsimp only at hSw); go_simp⟩) hS3 ?_
    simp only [Act.put]
    refine wpAnyH_take (i := 11) (v := undef) rfl (by kernel_rfl) (by kernel_rfl) (by kernel_rfl) (fun _ _ _ h => h) (Or.inr ⟨by rfl, rfl⟩) hS3 ?_
    simp only [Act.put]
    refine wpAnyH_ready (rs := [12]) (by kernel_rfl) (by simp) ?_
    refine AllReadyH.cons rfl (fun K hK => ?_) AllReadyH.nil
    go_simp
    refine hK.out _ _ hS3 (fun hS4 => ?_)
    clear hK K
    refine wpAnyH_take (i := 13) (v := undef) rfl (by kernel_rfl) (by kernel_rfl) (by kernel_rfl) (fun _ _ _ h => h) (Or.inr ⟨by rfl, rfl⟩) hS4 ?_
    simp only [Act.put]
    refine wpAnyH_take (i := 14) (v := .bool false) rfl (by kernel_rfl) (by kernel_rfl) (by kernel_rfl) (fun _ _ _ h => h) (Or.inl ⟨by rfl, fun w hSw => by (try dsimp only at hSw); go_simp⟩) hS4 ?_
    simp only [Act.put]
    refine wpAnyH_take (i := 15) (v := .bool false) rfl (by kernel_rfl) (by kernel_rfl) (by kernel_rfl) (fun _ _ _ h => h) (Or.inl ⟨by rfl, fun w hSw => by (try dsimp only at hSw); go_simp⟩) hS4 ?_
    simp only [Act.put]
    refine wpAnyH_done (by kernel_rfl) ?_ _
    refine NoPanic.normal ?_
    exact hQ.out _ _ _ _ _ _ _ _ _ _ _ _ _ _ _ _ b3
end Go.Proofs.Ytmbhapegdbajpaa
/- PoolFresh: the first lists grow. -/
namespace Go.Proofs.Ytmbhapegdbajpaa
open Go.RowKit Go.Shelf

theorem T1.own {W W' : World} {B : Nat} {S : Nat → Prop} {bt base n : Nat} {ua : Value} {xs : List Value} {hh vv cc E : Int} {M X : Nat} {bo : Option Addr} (k : T1 W B S bt hh vv cc E M X bo) (ow : W.ownsRow base 41 5 ua n xs) (fb : FB (fun k => ua.ownBlock = some k) W W') (ne : ua.ownBlock ≠ some bt) : T1 W' B S bt hh vv cc E M X bo :=
  ⟨fb.row k.t ne, k.a.fb fb (fun G e x => by
    rcases k.a with ⟨e1, _⟩ | ⟨G1, e1, row, _⟩
    · rw [e1] at e; cases e
    · rw [e1] at e; cases e; exact own_row_neU ow row (by decide) x)⟩
theorem Rk.re {w W W' : World} {S : Nat → Prop} {bb base m : Nat} {va vb vB va' vb' ua : Value} {z : Int} {l : List Br} {La Lb La' Lb' : List Tc} {xs : List Value} {wb ob bx Gx n : Nat} {fx : Nat → Value} {kd h v c : Int} {xo : Option Addr} {xc : Nat} {r s sy sx t lf b q : Int} (k : Rk w W S bb va vb vB z l La Lb wb ob bx Gx n fx kd h v c xo xc r s sy sx t lf b q) (pf' : Pf w W' S bb w.heap.size va' vb' vB z l La' Lb') (ow : W.ownsRow base 41 5 ua m xs) (fb : FB (fun k => ua.ownBlock = some k) W W') : Rk w W' S bb va' vb' vB z l La' Lb' wb ob bx Gx n fx kd h v c xo xc r s sy sx t lf b q :=
  ⟨pf', fb.row k.wi (fun x => own_row_neU ow k.wi (by decide) x), fb.row k.oo (fun x => own_row_neU ow k.oo (by decide) x), fb.row k.xx (fun x => own_row_neU ow k.xx (by decide) x), fb.row k.rx (fun x => own_row_neU ow k.rx (by decide) x)⟩
/-- What region 18 leaves. -/
def E18 (w W : World) (S : Nat → Prop) (bb : Nat) (va vb vB : Value) (z : Int) (l : List Br) (La Lb : List Tc) (x y : Tc) (v2 : Value) (w9 : World) : Prop := Pf w w9 S bb w.heap.size v2 vb vB z l (La ++ [x, y]) Lb ∧ FB (fun k => va.ownBlock = some k) W w9 ∧ (v2.ownBlock = va.ownBlock ∨ v2.ownBlock = some (W.heap.size + 1)) ∧ W.heap.size ≤ w9.heap.size
theorem r18_end {w W w9 : World} {S : Nat → Prop} {bb : Nat} {va vb vB v2 : Value} {z : Int} {l : List Br} {La Lb : List Tc} {x y : Tc} (pf : Pf w W S bb w.heap.size va vb vB z l La Lb) (ow : w9.ownsRow w.heap.size 41 5 v2 (La.length + 2) (tcg faT La ++ tenL faT x y)) (gr : (W.alloc (two faT x y)).grownBy w9 va.ownBlock) (at9 : v2.ownBlock = va.ownBlock ∨ v2.ownBlock = some (W.heap.size + 1)) (hx : As w.heap.size W S x.ao x.m x.N ∧ x.m ≤ 1073741824) (hy : As w.heap.size W S y.ao y.m y.N ∧ y.m ≤ 1073741824) (dxy : ∀ G, x.ao = some ⟨G, 0, none⟩ → y.ao ≠ some ⟨G, 0, none⟩) (dx : ∀ G, x.ao = some ⟨G, 0, none⟩ ∨ y.ao = some ⟨G, 0, none⟩ → ∀ q ∈ La, q.ao ≠ some ⟨G, 0, none⟩) :
    E18 w W S bb va vb vB z l La Lb x y v2 w9 := by
  have ba : Below W.heap.size W (W.alloc (two faT x y)) := bl_alloc (Below.refl _ _) _
  have fb : FB (fun k => va.ownBlock = some k) W w9 := ((FB.refl _ W).below ba).grown gr (fun r e => .inl e)
  refine ⟨pf.appA ba x y ow gr ?_ hx hy dxy dx, fb, at9, fb.size⟩
  rcases at9 with e | e
  · exact .inl e
  · exact .inr ⟨_, e, by omega⟩
theorem ten_oneA (x y : Tc) : ∀ u ∈ tenL faT x y, u.oneCell' = true := fun u hu => by
  simp [tenL, faT] at hu
  rcases hu with rfl | rfl | rfl | rfl | rfl | rfl | rfl | rfl | rfl | rfl <;> rfl
/-- Both lists have grown, or none. -/
def E17 (w W : World) (S : Nat → Prop) (bb : Nat) (va1 vb1 vB : Value) (z : Int) (l : List Br) (La : List Tc) (wb ob bx Gx n N : Nat) (kd h v c : Int) (xo : Option Addr) (xc : Nat) (r s sy sx t lf b q : Int) (b12 b13 : Nat) (hh vv cc E : Int) (M X : Nat) (bo1 bo2 : Option Addr) (wx : World) : Prop := ∃ La1 Lb1, Rk w wx S bb va1 vb1 vB z l La1 Lb1 wb ob bx Gx n (rmf N n) kd h v c xo xc r s sy sx t lf b q ∧ T1 wx w.heap.size S b12 hh vv cc E M X bo1 ∧ T1 wx w.heap.size S b13 hh vv cc E M X bo2 ∧ Mt La1 Lb1 ∧ La1.length ≤ La.length + 2 ∧ Sep La1 Lb1 Gx ∧ (∀ G, bo1 = some ⟨G, 0, none⟩ → Sep La1 Lb1 G) ∧ W.heap.size ≤ wx.heap.size
noncomputable def pfC17 : Code := (Try.f3.body.bind (fromP (isReg 18))).getD .skip
attribute [local go_sem ↓] Go.wp_at_zero Go.wp_at_succ
set_option maxHeartbeats 12800000 in
set_option maxRecDepth 100000 in
theorem pf_c18 (u0 u1 u2 u3 u4 u6 u7 u15 u16 u17 u18 u19 u20 u21 u22 u23 u24 u25 u26 u27 u28 u29 u30 u31 u32 u33 u34 u35 u36 u37 u38 u39 u40 u41 u42 u43 u44 u45 u46 u47 u48 u49 u50 u51 u52 u53 u54 u55 u56 u57 u58 u59 u60 u61 u62 u63 u64 u65 u66 u67 u68 u69 u70 u71 u72 u73 u74 u75 u76 u77 u78 u79 u80 u81 u82 u83 u84 u85 u86 u87 u88 u89 u90 u91 u92 u93 u94 u95 u96 u97 u98 u99 u100 u101 u102 u103 u104 u105 u106 u107 u108 u109 u110 u111 u112 u113 u114 u115 u116 u117 u118 u119 u120 u121 u122 u123 u124 u125 u126 u127 u128 u129 u130 u131 u132 u133 u134 u135 u136 u137 u138 u139 u140 u141 u142 u143 u144 u145 u146 u147 u148 u149 u150 u151 u152 u153 u154 : Value) (k bb ob bx b12 b13 b14 wb Gx : Nat) (z8 : Int) (w W : World) (S : Nat → Prop) (vB : Value) (z : Int) (l : List Br) (La Lb : List Tc) (kd h v c : Int) (xo : Option Addr) (n xc N : Nat) (r s sy sx t lf b q : Int) (hh vv cc E : Int) (M X : Nat) (bo1 bo2 bo3 : Option Addr) (h1 h2 h3 h4 : Nat) (Q : Exit → Act → World → Prop)
    (hM : M ≤ 1073741824) (hla : La.length ≤ 1099511627776) (hS : ∀ b, h1 ≤ b → S b) (hgx : Gx < h1) (h4W : h4 ≤ W.heap.size) (hb12 : h1 ≤ b12 ∧ b12 < W.heap.size) (hb13 : h1 ≤ b13 ∧ b13 < W.heap.size)
    (hu6 : ∀ k, u6.ownBlock = some k → k < h1) (hu7 : ∀ k, u7.ownBlock = some k → k < h1)
    (i1 : ∀ G, bo1 = some ⟨G, 0, none⟩ → h1 ≤ G ∧ G < h2) (i2 : ∀ G, bo2 = some ⟨G, 0, none⟩ → h2 ≤ G ∧ G < h3) (i3 : ∀ G, bo3 = some ⟨G, 0, none⟩ → h3 ≤ G ∧ G < h4) (h12 : h1 ≤ h2) (h23 : h2 ≤ h3) (h34 : h3 ≤ h4)
    (HSP : Hid (∀ G, Gx ≤ G → Sep La Lb G)) (HMT : Hid (Mt La Lb))
    (HRK : Hid (Rk w W S bb u6 u7 vB z l La Lb wb ob bx Gx n (rmf N n) kd h v c xo xc r s sy sx t lf b q)) (HTA : Hid (T1 W w.heap.size S b12 hh vv cc E M X bo1)) (HTB : Hid (T1 W w.heap.size S b13 hh vv cc E M X bo2)) (HTC : Hid (T1 W w.heap.size S b14 hh vv cc E M X bo3))
    (hQ : Hid (∀ (Y : World) (va1 vb1 v77 v78 v79 v80 v81 v82 v83 v84 v85 v86 v87 v88 : Value), E17 w W S bb va1 vb1 vB z l La wb ob bx Gx n N kd h v c xo xc r s sy sx t lf b q b12 b13 hh vv cc E M X bo1 bo2 Y → Q .normal ⟨#[u0, u1, u2, u3, u4, .pointer (some ⟨bb, 0, none⟩), va1, vb1, .int .i64 z8, .int .i64 (k : Int), .pointer (some ⟨ob, 0, none⟩), .pointer (some ⟨bx, 0, none⟩), .pointer (some ⟨b12, 0, none⟩), .pointer (some ⟨b13, 0, none⟩), .pointer (some ⟨b14, 0, none⟩), u15, u16, u17, u18, u19, u20, u21, u22, u23, u24, u25, u26, u27, u28, u29, u30, u31, u32, u33, u34, u35, u36, u37, u38, u39, u40, u41, u42, u43, u44, u45, u46, u47, u48, u49, u50, u51, u52, u53, u54, u55, u56, u57, u58, u59, u60, u61, u62, u63, u64, u65, u66, u67, u68, u69, u70, u71, u72, u73, u74, u75, u76, v77, v78, v79, v80, v81, v82, v83, v84, v85, v86, v87, v88, u89, u90, u91, u92, u93, u94, u95, u96, u97, u98, u99, u100, u101, u102, u103, u104, u105, u106, u107, u108, u109, u110, u111, u112, u113, u114, u115, u116, u117, u118, u119, u120, u121, u122, u123, u124, u125, u126, u127, u128, u129, u130, u131, u132, u133, u134, u135, u136, u137, u138, u139, u140, u141, u142, u143, u144, u145, u146, u147, u148, u149, u150, u151, u152, u153, u154], []⟩ Y)) :
    Code.wp Try.prog pfC17 Q ⟨#[u0, u1, u2, u3, u4, .pointer (some ⟨bb, 0, none⟩), u6, u7, .int .i64 z8, .int .i64 (k : Int), .pointer (some ⟨ob, 0, none⟩), .pointer (some ⟨bx, 0, none⟩), .pointer (some ⟨b12, 0, none⟩), .pointer (some ⟨b13, 0, none⟩), .pointer (some ⟨b14, 0, none⟩), u15, u16, u17, u18, u19, u20, u21, u22, u23, u24, u25, u26, u27, u28, u29, u30, u31, u32, u33, u34, u35, u36, u37, u38, u39, u40, u41, u42, u43, u44, u45, u46, u47, u48, u49, u50, u51, u52, u53, u54, u55, u56, u57, u58, u59, u60, u61, u62, u63, u64, u65, u66, u67, u68, u69, u70, u71, u72, u73, u74, u75, u76, u77, u78, u79, u80, u81, u82, u83, u84, u85, u86, u87, u88, u89, u90, u91, u92, u93, u94, u95, u96, u97, u98, u99, u100, u101, u102, u103, u104, u105, u106, u107, u108, u109, u110, u111, u112, u113, u114, u115, u116, u117, u118, u119, u120, u121, u122, u123, u124, u125, u126, u127, u128, u129, u130, u131, u132, u133, u134, u135, u136, u137, u138, u139, u140, u141, u142, u143, u144, u145, u146, u147, u148, u149, u150, u151, u152, u153, u154], []⟩ W := by
  conv => arg 2; whnf
  obtain ⟨d0, d1, d2, d3, d4⟩ := to_cells HTB.out.t
  obtain ⟨e0, e1, e2, e3, e4⟩ := to_cells HTC.out.t
  have hwW : w.heap.size ≤ W.heap.size := HRK.out.pf.bel.size
  have HXA : Hid (As w.heap.size W S bo2 M X ∧ M ≤ 1073741824) := hid1 ⟨HTB.out.a, hM⟩
  have HYA : Hid (As w.heap.size W S bo3 M X ∧ M ≤ 1073741824) := hid1 ⟨HTC.out.a, hM⟩
  have HD1 : Hid (∀ G, bo2 = some ⟨G, 0, none⟩ → bo3 ≠ some ⟨G, 0, none⟩) := hid1 (fun G e e' => by have := i2 G e; have := i3 G e'; omega)
  have HD2 : Hid (∀ G, bo2 = some ⟨G, 0, none⟩ ∨ bo3 = some ⟨G, 0, none⟩ → ∀ q ∈ La, q.ao ≠ some ⟨G, 0, none⟩) := hid1 (fun G e => by
    rcases e with e | e
    · have := i2 G e; exact (HSP.out G (by omega)).1
    · have := i3 G e; exact (HSP.out G (by omega)).1)
  have HOA := hid1 (HRK.out.pf.a.alloc (two faT ⟨hh, vv, cc, E, M, X, bo2, none, 0⟩ ⟨hh, vv, cc, E, M, X, bo3, none, 0⟩))
  have hlA := HRK.out.pf.hb.2
  go_upto_region 19 with (at_builtin; refine app_two rfl _ _ rfl w.heap.size u6 La.length (tcg faT La) (by go_simp) HOA.out ⟨W.heap.size, 0, none⟩ (tenL faT ⟨hh, vv, cc, E, M, X, bo2, none, 0⟩ ⟨hh, vv, cc, E, M, X, bo3, none, 0⟩) (by go_simp) rfl (two_cells faT ⟨hh, vv, cc, E, M, X, bo2, none, 0⟩ ⟨hh, vv, cc, E, M, X, bo3, none, 0⟩ W) (ten_oneA _ _) hla (by simp; omega) ?_; intro v2 w9 ow9 gr9 at9)
  obtain ⟨pf9, fb9, nb9, sz9⟩ := r18_end (x := ⟨hh, vv, cc, E, M, X, bo2, none, 0⟩) (y := ⟨hh, vv, cc, E, M, X, bo3, none, 0⟩) HRK.out.pf ow9 gr9 (by simpa using at9) HXA.out HYA.out HD1.out HD2.out
  have ta9 := HTA.out.own HRK.out.pf.a fb9 (fun e => by have := hu6 _ e; omega)
  have tb9 := HTB.out.own HRK.out.pf.a fb9 (fun e => by have := hu6 _ e; omega)
  have rk9 := HRK.out.re pf9 HRK.out.pf.a fb9
  have s0 : Lb.length ≤ 1099511627776 := by have := HMT.out.len; omega
  have HPF9 := hid1 pf9
  have HTA9 := hid1 ta9
  have HTB9 := hid1 tb9
  have HRK9 := hid1 rk9
  have hu79 : ∀ k, u7.ownBlock = some k → k ≠ b12 ∧ k ≠ b13 := fun k e => by have := hu7 k e; omega
  clear pf9 ta9 tb9 rk9 ow9 gr9 at9 HOA HXA HYA HD1 HD2 d0 d1 d2 d3 d4 e0 e1 e2 e3 e4
  refine pf_r19 _ _ _ _ _ _ _ _ _ _ _ _ _ _ _ _ _ _ _ _ _ _ _ _ _ _ _ _ _ _ _ _ _ _ _ _ _ _ _ _ _ _ _ _ _ _ _ _ _ _ _ _ _ _ _ _ _ _ _ _ _ _ _ _ _ _ _ _ _ _ _ _ _ _ _ _ _ _ _ _ _ _ _ _ _ _ _ _ _ _ _ _ _ _ _ _ _ _ _ _ _ _ _ _ _ _ _ _ _ _ _ _ _ _ _ _ _ _ _ _ _ _ _ _ _ _ _ _ _ _ _ _ _ _ _ _ _ _ _ _ _ _ _ _ _ _ _ _ _ _ _ _ _ _ b13 w w9 S bb v2 vB z l (La ++ [⟨hh, vv, cc, E, M, X, bo2, none, 0⟩, ⟨hh, vv, cc, E, M, X, bo3, none, 0⟩]) Lb hh vv cc E M X bo2 Q hM s0 HPF9 HTB9 (hid1 (fun b hb => hS b (by omega))) (hid1 ?_)
  rintro w10 v3 v82 v83 v84 v85 v86 v87 v88 ⟨bo4, k4, bo5, k5, pf10, fb10, n45⟩
  refine hQ.out w10 v2 v3 _ _ _ _ _ v82 v83 v84 v85 v86 v87 v88 ⟨La ++ [⟨hh, vv, cc, E, M, X, bo2, none, 0⟩, ⟨hh, vv, cc, E, M, X, bo3, none, 0⟩], Lb ++ [⟨hh, vv, cc, E, M, X, bo2, bo4, k4⟩, ⟨hh, vv, cc, E, M, X, bo2, bo5, k5⟩], HRK9.out.re pf10 HPF9.out.b fb10, HTA9.out.own HPF9.out.b fb10 (fun e => (hu79 _ e).1 rfl), HTB9.out.own HPF9.out.b fb10 (fun e => (hu79 _ e).2 rfl), HMT.out.two rfl rfl, by simp, ?_, fun G e => ?_, Nat.le_trans sz9 fb10.size⟩
  · exact ((HSP.out Gx (Nat.le_refl _)).appA (fun e => by have := i2 _ e; omega) (fun e => by have := i3 _ e; omega)).appB (fun e => by have := n45 _ (.inl e); omega) (fun e => by have := n45 _ (.inr e); omega)
  · have ga := i1 G e
    exact ((HSP.out G (by omega)).appA (fun e => by have := i2 _ e; omega) (fun e => by have := i3 _ e; omega)).appB (fun e => by have := n45 _ (.inl e); omega) (fun e => by have := n45 _ (.inr e); omega)
end Go.Proofs.Ytmbhapegdbajpaa
