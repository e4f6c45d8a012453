/- PACKAGE patch: lookAt. -/
import Derived.Test.YtohkiknhjcibgaaEM1
import Derived.Test.YtohkiknhjcibgaaSW3
import Derived.Test.YtohkiknhjcibgaaKW7
import Derived.Deep.MidRow
namespace Go.Proofs.Ytohkiknhjcibgaa
open Go.RowKit Go.Shelf

/-- A view's eighteen cells. -/
structure Vw where
  H : Nat
  V : Nat
  C : Nat
  ao : Option Addr
  m : Nat
  cap : Nat
  r : Nat
  s : Nat
  sy : Nat
  sx : Nat
  t : Nat
  l : Nat
  b : Nat
  q : Nat
  d : Nat
  ch : Option Addr
  chn : Nat
  A : Bt
  B : Bt
abbrev Vw.val (v : Vw) : Value := .agg #[.int .i64 v.H, .int .i64 v.V, .int .i64 v.C, .slice v.ao v.m v.cap, .int .i64 v.r, .int .i64 v.s, .int .i64 v.sy, .int .i64 v.sx, .int .i64 v.t, .int .i64 v.l, .int .i64 v.b, .int .i64 v.q, .int .i64 v.d, .slice v.ch v.chn v.chn, .int .i64 v.A.n, .slice v.A.ao v.A.m v.A.cap, .int .i64 v.B.n, .slice v.B.ao v.B.m v.B.cap]
abbrev Vw.obj (v : Vw) : Obj := .cells #[.int .i64 v.H, .int .i64 v.V, .int .i64 v.C, .slice v.ao v.m v.cap, .int .i64 v.r, .int .i64 v.s, .int .i64 v.sy, .int .i64 v.sx, .int .i64 v.t, .int .i64 v.l, .int .i64 v.b, .int .i64 v.q, .int .i64 v.d, .slice v.ch v.chn v.chn, .int .i64 v.A.n, .slice v.A.ao v.A.m v.A.cap, .int .i64 v.B.n, .slice v.B.ao v.B.m v.B.cap] 56
def Vw.f (v : Vw) : Nat → Value := fun k => match k with
  | 0 => .int .i64 v.H | 1 => .int .i64 v.V | 2 => .int .i64 v.C | 3 => .slice v.ao v.m v.cap
  | 4 => .int .i64 v.r | 5 => .int .i64 v.s | 6 => .int .i64 v.sy | 7 => .int .i64 v.sx | 8 => .int .i64 v.t | 9 => .int .i64 v.l | 10 => .int .i64 v.b | 11 => .int .i64 v.q
  | 12 => .int .i64 v.d | 13 => .slice v.ch v.chn v.chn | 14 => .int .i64 v.A.n | 15 => .slice v.A.ao v.A.m v.A.cap | 16 => .int .i64 v.B.n | _ => .slice v.B.ao v.B.m v.B.cap
def Vw.ls (v : Vw) : List Value := [.int .i64 v.H, .int .i64 v.V, .int .i64 v.C, .slice v.ao v.m v.cap, .int .i64 v.r, .int .i64 v.s, .int .i64 v.sy, .int .i64 v.sx, .int .i64 v.t, .int .i64 v.l, .int .i64 v.b, .int .i64 v.q, .int .i64 v.d, .slice v.ch v.chn v.chn, .int .i64 v.A.n, .slice v.A.ao v.A.m v.A.cap, .int .i64 v.B.n, .slice v.B.ao v.B.m v.B.cap]
theorem Vw.ls_len (v : Vw) : v.ls.length = 18 := rfl
theorem Vw.ls_at (v : Vw) : ∀ j, j < 18 → v.ls[j]? = some (v.f j) := fun j hj => by
  rcases j with _ | _ | _ | _ | _ | _ | _ | _ | _ | _ | _ | _ | _ | _ | _ | _ | _ | _ | j
  all_goals first | rfl | omega
theorem Vw.ls_one (v : Vw) : v.ls.toArray.all (·.oneCell') = true := all_oneCell_toArray (by simp [Vw.ls, Value.oneCell'])
theorem info_vw : (Try.prog.info? 56).map (·.size) = some 18 := by kernel_rfl
theorem vw_range {w : World} {b : Nat} {v : Vw} (h : w.rowIs b 56 18 v.f) : w.rangeAt b 0 v.ls := fun j u hj => by
  by_cases e : j < 18
  · rw [v.ls_at j e] at hj
    cases hj
    rw [Nat.zero_add]; exact h.cell e
  · rw [List.getElem?_eq_none (by rw [v.ls_len]; omega)] at hj
    cases hj
theorem vw_there {w : World} {b : Nat} {v : Vw} (h : w.rowIs b 56 18 v.f) : w.there b 0 18 := fun j hj => by
  rw [Nat.zero_add]; exact ⟨by rw [h.cell hj]; rfl, h.frozen j⟩
theorem setCells_but (b : Nat) : ∀ (l : List Value) (i : Nat) (w : World), But b w (w.setCells b i l)
  | [], _, w => But.refl b w
  | v :: l, i, w => ((But.refl b w).set (o := i) v).trans (setCells_but b l (i + 1) (w.setCell ⟨b, i, none⟩ v))
theorem results_cell_mid {P : Program} {fn : Func} {p : Tmp} {ty : TypeId} (h : fn.results = #[.cell p ty]) (tmps : Array Value) (w : World) (b o : Nat) (cs : List Value) (d : TypeDesc) (hp : tmps.getD p undef = .pointer (some ⟨b, o, none⟩)) (hc : w.rangeAt b o cs)
    (hu : P.underlying ty = some d) (hd : d.isRow = true) (hi : (P.info? ty).map (·.size) = some cs.length) : (results fn tmps).run P w = .ok (.agg cs.toArray) w := by
  have hp' : tmps[p]?.getD undef = .pointer (some ⟨b, o, none⟩) := by simpa using hp
  simp [results, h, hp', asAddr, run_loadVar_mid w b o ty cs d hc hu hd hi]
theorem vw_new (w : World) (v : Vw) : (w.alloc v.obj).rowIs w.heap.size 56 18 v.f :=
  World.rowIs_alloc w _ _ _ (fun i hi => by
    rcases i with _ | _ | _ | _ | _ | _ | _ | _ | _ | _ | _ | _ | _ | _ | _ | _ | _ | _ | i
    all_goals first | rfl | (simp at hi; omega))
/-- A window's eight cells. -/
def wif (r s sy sx t l b q : Nat) : Nat → Value := fun k => match k with
  | 0 => .int .i64 r | 1 => .int .i64 s | 2 => .int .i64 sy | 3 => .int .i64 sx | 4 => .int .i64 t | 5 => .int .i64 l | 6 => .int .i64 b | _ => .int .i64 q
theorem wi_new (w : World) (r s sy sx t l b q : Nat) : (w.alloc (.cells #[.int .i64 r, .int .i64 s, .int .i64 sy, .int .i64 sx, .int .i64 t, .int .i64 l, .int .i64 b, .int .i64 q] 37)).rowIs w.heap.size 37 8 (wif r s sy sx t l b q) :=
  World.rowIs_alloc w _ _ _ (fun i hi => by
    rcases i with _ | _ | _ | _ | _ | _ | _ | _ | i
    all_goals first | rfl | (simp at hi; omega))
section
variable {w : World} {bb : Nat} {v : Vw}
theorem vc (h : w.rowIs bb 56 18 v.f) (k : Nat) (hk : k < 18) : w.cell? ⟨bb, k, none⟩ = some (v.f k) := h.cell hk
end
theorem vw_set13 {w : World} {bb : Nat} {v : Vw} (h : w.rowIs bb 56 18 v.f) (c n : Nat) : (w.setCell ⟨bb, 13, none⟩ (.slice (some ⟨c, 0, none⟩) n n)).rowIs bb 56 18 (Vw.f { v with ch := some ⟨c, 0, none⟩, chn := n }) := (h.set 13 _).congr fun k hk => by
  by_cases e : k = 13
  · subst e; simp [Vw.f]
  · rw [if_neg e]
    rcases k with _ | _ | _ | _ | _ | _ | _ | _ | _ | _ | _ | _ | _ | _ | _ | _ | _ | _ | k
    all_goals first | rfl | omega
theorem vw_set14 {w : World} {bb : Nat} {v : Vw} (h : w.rowIs bb 56 18 v.f) (A B : Bt) : ((((w.setCell ⟨bb, 14, none⟩ (.int .i64 A.n)).setCell ⟨bb, 15, none⟩ (.slice A.ao A.m A.cap)).setCell ⟨bb, 16, none⟩ (.int .i64 B.n)).setCell ⟨bb, 17, none⟩ (.slice B.ao B.m B.cap)).rowIs bb 56 18 (Vw.f { v with A := A, B := B }) := ((((h.set 14 _).set 15 _).set 16 _).set 17 _).congr fun k hk => by
  rcases k with _ | _ | _ | _ | _ | _ | _ | _ | _ | _ | _ | _ | _ | _ | _ | _ | _ | _ | k
  all_goals first | rfl | omega
theorem chan_row {W : World} {ch C : Nat} (hC : 0 < C) (h : W.rowIs ch 41 (nw C) (onf (nw C))) : (W.setCell ⟨ch, nw C - 1, none⟩ (.int .u64 (tl C : Nat))).rowIs ch 41 (nw C) (wf (ful C)) := (h.set (nw C - 1) _).congr fun j hj => by
  unfold wf
  by_cases e : j = nw C - 1
  · rw [if_pos e, e, last_word hC]
  · rw [if_neg e, full_word (by omega)]
    unfold onf
    rw [if_pos hj]
    rfl
/-- k places of the border are laid. -/
def bdN (d P x k : Nat) : Nat := js (64 * d) (fun p => if p < k then x else 0) P
theorem bdN_zero (d P x : Nat) : bdN d P x 0 = 0 := by
  unfold bdN; simp only [Nat.not_lt_zero, if_false]; exact js_none _ _
theorem bdN_none (d P k : Nat) : bdN d P 0 k = 0 := by
  unfold bdN; simp only [ite_self]; exact js_none _ _
theorem bdN_all (d P x : Nat) : bdN d P x P = js (64 * d) (fun _ => x) P := js_congr P fun i hi => by rw [if_pos hi]
theorem bdN_step {d P x k : Nat} (hd : 0 < d) (hx : x < 2 ^ (64 * d)) (j : Nat) (hj : j < P * d) : (if k * d ≤ j ∧ j < k * d + d then wf x (j - k * d) else wf (bdN d P x k) j) = wf (bdN d P x (k + 1)) j := by
  unfold bdN
  rw [js_put hd (fun p _ => by split; exact hx; exact Nat.two_pow_pos _) hx hj]
  congr 1
  refine js_congr P fun p _ => ?_
  by_cases e : p = k
  · rw [if_pos e, if_pos (by omega)]
  · rw [if_neg e]
    by_cases e2 : p < k
    · rw [if_pos e2, if_pos (by omega)]
    · rw [if_neg e2, if_neg (by omega)]
/-- A place of the border, copied. -/
theorem bd_copy {W : World} {G c C P M k : Nat} (hC : 0 < C) (hk : k < P) (hM : P * nw C = M) (row : W.rowIs G 41 M (wf (bdN (nw C) P (ful C) k))) (src : W.rowIs c 41 (nw C) (wf (ful C))) :
    ∃ W', (∀ ty, (Builtin.copy_ #[26, 26] ty #[.slice (some ⟨G, k * nw C, none⟩) (M - k * nw C) (M - k * nw C), .slice (some ⟨c, 0, none⟩) (nw C) (nw C)]).run Try.prog W = .ok (.int .i64 (nw C)) W') ∧ W'.rowIs G 41 M (wf (bdN (nw C) P (ful C) (k + 1))) ∧ But G W W' := by
  have hd : 0 < nw C := by unfold nw; omega
  have h1 : k * nw C + nw C ≤ M := by rw [← hM, ← Nat.succ_mul]; exact Nat.mul_le_mul_right _ hk
  obtain ⟨W', h, r, bt⟩ := copy_gen (w := W) (G := G) (T := M) (p := k * nw C) (L := M - k * nw C) (n := M - k * nw C) (s := nw C) (c := nw C) (d := nw C) (a := ⟨c, 0, none⟩) (h := wf (ful C)) h1 (by show nw C = min (nw C) (M - k * nw C); omega) row (fun j hj => by
    have := src.cell hj
    rcases j with _ | j <;> simpa [Addr.add] using this) (wf_one _)
  exact ⟨W', h, r.congr fun j hj => bdN_step hd (ful_words C) j (by omega), bt⟩
theorem kpL {Z Y : World} {b0 b1 H V C m cap r s sy sx t l b q : Nat} {ao : Option Addr} (h0 : Z.rowIs b0 31 4 (cf H V C ao m cap)) (h1 : Z.rowIs b1 37 8 (wif r s sy sx t l b q)) (hB : Below Z.heap.size Z Y) :
    (Y.cell? ⟨b0, 0, none⟩ = some (.int .i64 H) ∧ Y.cell? ⟨b0, 1, none⟩ = some (.int .i64 V) ∧ Y.cell? ⟨b0, 2, none⟩ = some (.int .i64 C) ∧ Y.cell? ⟨b0, 3, none⟩ = some (.slice ao m cap)) ∧
    (Y.cell? ⟨b1, 0, none⟩ = some (.int .i64 r) ∧ Y.cell? ⟨b1, 1, none⟩ = some (.int .i64 s) ∧ Y.cell? ⟨b1, 2, none⟩ = some (.int .i64 sy) ∧ Y.cell? ⟨b1, 3, none⟩ = some (.int .i64 sx) ∧ Y.cell? ⟨b1, 4, none⟩ = some (.int .i64 t) ∧ Y.cell? ⟨b1, 5, none⟩ = some (.int .i64 l) ∧ Y.cell? ⟨b1, 6, none⟩ = some (.int .i64 b) ∧ Y.cell? ⟨b1, 7, none⟩ = some (.int .i64 q)) :=
  ⟨⟨cf0 (keepr hB h0), cf1 (keepr hB h0), cf2 (keepr hB h0), cf3 (keepr hB h0)⟩, (keepr hB h1).cell (by omega), (keepr hB h1).cell (by omega), (keepr hB h1).cell (by omega), (keepr hB h1).cell (by omega), (keepr hB h1).cell (by omega), (keepr hB h1).cell (by omega), (keepr hB h1).cell (by omega), (keepr hB h1).cell (by omega)⟩
theorem look_start (w : World) (H V C g o m cap r s sy sx t l b q : Nat) : ∃ X, ((w.alloc (.cells #[.int .i64 H, .int .i64 V, .int .i64 C, .slice (some ⟨g, o, none⟩) m cap] 31)).alloc (.cells #[.int .i64 r, .int .i64 s, .int .i64 sy, .int .i64 sx, .int .i64 t, .int .i64 l, .int .i64 b, .int .i64 q] 37)).alloc (Vw.obj ⟨0, 0, 0, none, 0, 0, 0, 0, 0, 0, 0, 0, 0, 0, 0, none, 0, ⟨0, none, 0, 0, 0⟩, ⟨0, none, 0, 0, 0⟩⟩) = X ∧ X.heap.size = w.heap.size + 3 ∧ X.rowIs w.heap.size 31 4 (cf H V C (some ⟨g, o, none⟩) m cap) ∧ X.rowIs (w.heap.size + 1) 37 8 (wif r s sy sx t l b q) ∧ X.rowIs (w.heap.size + 2) 56 18 (Vw.f ⟨0, 0, 0, none, 0, 0, 0, 0, 0, 0, 0, 0, 0, 0, 0, none, 0, ⟨0, none, 0, 0, 0⟩, ⟨0, none, 0, 0, 0⟩⟩) ∧ Below w.heap.size w X := by
  refine ⟨_, rfl, by simp, ((cu_new w _ _ _ _ _ _ _).alloc _).alloc _, ?_, ?_, bl_alloc (bl_alloc (bl_alloc (Below.refl _ _) _) _) _⟩
  · have := (wi_new (w.alloc (.cells #[.int .i64 H, .int .i64 V, .int .i64 C, .slice (some ⟨g, o, none⟩) m cap] 31)) r s sy sx t l b q).alloc (Vw.obj ⟨0, 0, 0, none, 0, 0, 0, 0, 0, 0, 0, 0, 0, 0, 0, none, 0, ⟨0, none, 0, 0, 0⟩, ⟨0, none, 0, 0, 0⟩⟩)
    rw [World.size_alloc] at this
    exact this
  · have := vw_new ((w.alloc (.cells #[.int .i64 H, .int .i64 V, .int .i64 C, .slice (some ⟨g, o, none⟩) m cap] 31)).alloc (.cells #[.int .i64 r, .int .i64 s, .int .i64 sy, .int .i64 sx, .int .i64 t, .int .i64 l, .int .i64 b, .int .i64 q] 37)) ⟨0, 0, 0, none, 0, 0, 0, 0, 0, 0, 0, 0, 0, 0, 0, none, 0, ⟨0, none, 0, 0, 0⟩, ⟨0, none, 0, 0, 0⟩⟩
    rw [World.size_alloc, World.size_alloc] at this
    exact this
set_option maxHeartbeats 3200000 in
set_option maxRecDepth 100000 in
theorem lookAt_any (H V C g o m cap r s sy sx t l b q : Nat) (bd : Int) (w : World) (hC : 1 ≤ C ∧ C ≤ 4096) (hr : 1 ≤ r ∧ r ≤ 15) (hs : 1 ≤ s ∧ s ≤ 15) (hbd : -1 ≤ bd ∧ bd ≤ 1) (xs xm : Nat) (hxs : xs = if 0 < bd then ful C else 0) (hxm : xm = if bd = 0 then 0 else ful C) :
    Calls Try.prog 15 #[cuv H V C (some ⟨g, o, none⟩) m cap, Sg.win r s sy sx t l b q, .int .i64 bd] w fun e w' => ∃ c G1 G2, e = .returned (Vw.val ⟨H, V, C, some ⟨g, o, none⟩, m, cap, r, s, sy, sx, t, l, b, q, nw C, some ⟨c, 0, none⟩, nw C, bt (r * s * nw C) G1 0, bt (r * s * nw C) G2 0⟩) ∧
      w.heap.size ≤ c ∧ w.heap.size ≤ G1 ∧ w.heap.size ≤ G2 ∧ w'.rowIs c 41 (nw C) (wf (ful C)) ∧ w'.rowIs G1 41 (r * s * nw C) (wf (js (64 * nw C) (fun _ => xs) (r * s))) ∧ w'.rowIs G2 41 (r * s * nw C) (wf (js (64 * nw C) (fun _ => xm) (r * s))) ∧ Below w.heap.size w w' := by
  have hd1 : nw C ≤ 64 := by unfold nw; omega
  have hd0 : 1 ≤ nw C := by unfold nw; omega
  have HW := hid1 (pwordsFor_any C (by omega))
  have HT := hid1 (tail_pos C (by omega) (by omega))
  have hfo := follows
  have HXS := hid1 hxs
  have HXM := hid1 hxm
  clear hxs hxm
  go_enter Try.func15, Try.ntmps15
  go_upto_region 1 with fail
  refine gen_world (fun X => X.heap.size = w.heap.size + 3 ∧ X.rowIs w.heap.size 31 4 (cf H V C (some ⟨g, o, none⟩) m cap) ∧ X.rowIs (w.heap.size + 1) 37 8 (wif r s sy sx t l b q) ∧ X.rowIs (w.heap.size + 2) 56 18 (Vw.f ⟨0, 0, 0, none, 0, 0, 0, 0, 0, 0, 0, 0, 0, 0, 0, none, 0, ⟨0, none, 0, 0, 0⟩, ⟨0, none, 0, 0, 0⟩⟩) ∧ Below w.heap.size w X) (by obtain ⟨X, rfl, z⟩ := look_start w H V C g o m cap r s sy sx t l b q; exact z) ?_
  rintro X ⟨z0, b0, b1, b2, BX⟩
  have e0 := cf0 b0
  have e1 := cf1 b0
  have e2 := cf2 b0
  have e3 := cf3 b0
  have c0 := b1.cell (i := 0) (by omega)
  have c1 := b1.cell (i := 1) (by omega)
  have c2 := b1.cell (i := 2) (by omega)
  have c3 := b1.cell (i := 3) (by omega)
  have c4 := b1.cell (i := 4) (by omega)
  have c5 := b1.cell (i := 5) (by omega)
  have c6 := b1.cell (i := 6) (by omega)
  have c7 := b1.cell (i := 7) (by omega)
  simp only [wif] at c0 c1 c2 c3 c4 c5 c6 c7
  have HB0 := hid1 b0
  have HB1 := hid1 b1
  have HB2 := hid1 b2
  clear b0 b1 b2
  go_cut [7] from 9 to 15 (fun s7 wx => s7 = .pointer (some ⟨w.heap.size + 3, 0, none⟩) ∧ wx.rowIs (w.heap.size + 3) 56 18 (Vw.f ⟨H, V, C, some ⟨g, o, none⟩, m, cap, r, s, sy, sx, t, l, b, q, nw C, none, 0, ⟨0, none, 0, 0, 0⟩, ⟨0, none, 0, 0, 0⟩⟩) ∧ Below X.heap.size X wx)
  case first =>
    go_region_held3 (fun Y => (Y.cell? ⟨w.heap.size, 0, none⟩ = some (.int .i64 H) ∧ Y.cell? ⟨w.heap.size, 1, none⟩ = some (.int .i64 V) ∧ Y.cell? ⟨w.heap.size, 2, none⟩ = some (.int .i64 C) ∧ Y.cell? ⟨w.heap.size, 3, none⟩ = some (.slice (some ⟨g, o, none⟩) m cap)) ∧ (Y.cell? ⟨w.heap.size + 1, 0, none⟩ = some (.int .i64 r) ∧ Y.cell? ⟨w.heap.size + 1, 1, none⟩ = some (.int .i64 s) ∧ Y.cell? ⟨w.heap.size + 1, 2, none⟩ = some (.int .i64 sy) ∧ Y.cell? ⟨w.heap.size + 1, 3, none⟩ = some (.int .i64 sx) ∧ Y.cell? ⟨w.heap.size + 1, 4, none⟩ = some (.int .i64 t) ∧ Y.cell? ⟨w.heap.size + 1, 5, none⟩ = some (.int .i64 l) ∧ Y.cell? ⟨w.heap.size + 1, 6, none⟩ = some (.int .i64 b) ∧ Y.cell? ⟨w.heap.size + 1, 7, none⟩ = some (.int .i64 q)))
      (((try dsimp only); (with_reducible refine kpL (Z := X) HB0.out HB1.out ?_); repeat (first | (with_reducible exact Below.refl _ _) | (with_reducible assumption) | (with_reducible refine Below.drew ?_) | (with_reducible refine bl_alloc ?_ _) | (with_reducible refine bl_set ?_ (Nat.le_refl _) _))))
      ((go_at_call 25; refine (HW.out _).mono ?_; rintro e y1 ⟨rfl, rfl⟩))
    all_goals (refine kmeet_of (by assumption) ?_; go_meet; exact ⟨rfl, by have := (vw_new X ⟨H, V, C, some ⟨g, o, none⟩, m, cap, r, s, sy, sx, t, l, b, q, nw C, none, 0, ⟨0, none, 0, 0, 0⟩, ⟨0, none, 0, 0, 0⟩⟩).drew; rw [z0] at this; exact this, (bl_alloc (Below.refl _ _) _).drew⟩)
  case rest =>
    obtain ⟨rfl, bv, Bc⟩ := hcut
    clear e0 e1 e2 e3 c0 c1 c2 c3 c4 c5 c6 c7 HW
    have c12 := bv.cell (i := 12) (by omega)
    simp only [Vw.f] at c12
    have lv := bv.lt
    have HBV := hid1 bv
    have HBC := hid1 Bc
    clear bv Bc
    have HRP := hid1 (fun G W (h : W.cell? ⟨G, 0, none⟩ = _) => repeat_any (nw C) G W ⟨hd0, hd1⟩ h)
    go_wp2_with fail
    refine gen_calls (fun Y => Y.cell? ⟨wc.heap.size, 0, none⟩ = some (.int .u64 18446744073709551615) ∧ Y.rowIs (w.heap.size + 3) 56 18 (Vw.f ⟨H, V, C, some ⟨g, o, none⟩, m, cap, r, s, sy, sx, t, l, b, q, nw C, none, 0, ⟨0, none, 0, 0, 0⟩, ⟨0, none, 0, 0, 0⟩⟩) ∧ Below X.heap.size X Y) ⟨by simp [go_sem], HBV.out.alloc _, bl_alloc HBC.out _⟩ ?_
    clear HBV HBC c12 lv
    rintro Y ⟨cY, bv, BY⟩
    refine (HRP.out _ Y cY).mono ?_
    rintro e y1 ⟨ch, rfl, hch, row, hb⟩
    have lY : w.heap.size + 3 < ch := by have := bv.lt; omega
    replace bv := keepr hb bv
    replace BY := bl_step BY hb
    clear hb cY HRP
    have f13 := bv.frozen 13
    have c13 := bv.cell (i := 13) (by omega)
    simp only [Vw.f] at c13
    have HBV := hid1 bv
    have HBY := hid1 BY
    have HRW := hid1 row
    clear bv BY row
    go_wp2_with fail
    refine gen_world (fun Z => Z.rowIs (w.heap.size + 3) 56 18 (Vw.f ⟨H, V, C, some ⟨g, o, none⟩, m, cap, r, s, sy, sx, t, l, b, q, nw C, some ⟨ch, 0, none⟩, nw C, ⟨0, none, 0, 0, 0⟩, ⟨0, none, 0, 0, 0⟩⟩) ∧ Z.rowIs ch 41 (nw C) (onf (nw C)) ∧ Below X.heap.size X Z) ⟨vw_set13 HBV.out ch (nw C), HRW.out.setOther (a := ⟨w.heap.size + 3, 13, none⟩) (by show ch ≠ w.heap.size + 3; omega) _, bl_set HBY.out (by rw [z0]; exact Nat.le_refl _) _⟩ ?_
    clear HBV HRW HBY f13 c13
    rintro Z ⟨bv, row, BZ⟩
    have c12 := bv.cell (i := 12) (by omega)
    have c13 := bv.cell (i := 13) (by omega)
    simp only [Vw.f] at c12 c13
    have e2 := cf2 (keepr BZ HB0.out)
    have wd1 : IntKind.i64.wrap ((nw C : Int) - 1) = ((nw C - 1 : Nat) : Int) := by rw [IntKind.wrap_i64]; omega
    have id0 : (0 : Int) ≤ ((nw C - 1 : Nat) : Int) := by omega
    have id1 : ((nw C - 1 : Nat) : Int) < (nw C : Nat) := by omega
    have fch := row.frozen (nw C - 1)
    have cch := row.cell (i := nw C - 1) (by omega)
    have HBV := hid1 bv
    have HRW := hid1 row
    have HBZ := hid1 BZ
    clear bv row BZ
    refine still_tail 10 (by kernel_rfl) ?_
    simp only [List.take_succ_cons, List.take_zero, List.drop_succ_cons, List.drop_zero]
    repeat still_step
    still_call (HT.out _)
    repeat still_step
    refine wpStill_nil ?_
    go_upto_region 4 with fail
    refine gen_world (fun U => U.rowIs (w.heap.size + 3) 56 18 (Vw.f ⟨H, V, C, some ⟨g, o, none⟩, m, cap, r, s, sy, sx, t, l, b, q, nw C, some ⟨ch, 0, none⟩, nw C, ⟨0, none, 0, 0, 0⟩, ⟨0, none, 0, 0, 0⟩⟩) ∧ U.rowIs ch 41 (nw C) (wf (ful C)) ∧ Below X.heap.size X U) ⟨(HBV.out.setOther (a := ⟨ch, nw C - 1, none⟩) (by show w.heap.size + 3 ≠ ch; omega) _).drew, (chan_row (by omega) HRW.out).drew, (bl_set HBZ.out (by omega) _).drew⟩ ?_
    clear HBV HRW HBZ fch cch c12 c13 e2
    rintro U ⟨bv, rch, BU⟩
    have c12 := bv.cell (i := 12) (by omega)
    simp only [Vw.f] at c12
    have hw := keepr BU HB1.out
    have d0 := hw.cell (i := 0) (by omega)
    have d1 := hw.cell (i := 1) (by omega)
    simp only [wif] at d0 d1
    obtain ⟨P, eP⟩ : ∃ P, r * s = P := ⟨_, rfl⟩
    obtain ⟨M, eM⟩ : ∃ M, P * nw C = M := ⟨_, rfl⟩
    have hP : P ≤ 225 := by rw [← eP]; exact Nat.mul_le_mul hr.2 hs.2
    have hP0 : 0 < P := by rw [← eP]; exact Nat.mul_pos (by omega) (by omega)
    have hM : M ≤ 14400 := by rw [← eM]; exact Nat.mul_le_mul hP hd1
    have p1 : (r : Int) * (s : Int) = (P : Int) := by rw [← eP]; push_cast; rfl
    have p2 : (P : Int) * (nw C : Int) = (M : Int) := by rw [← eM]; push_cast; rfl
    have w1 : IntKind.i64.wrap (P : Int) = (P : Int) := by rw [IntKind.wrap_i64]; omega
    have w2 : IntKind.i64.wrap (M : Int) = (M : Int) := by rw [IntKind.wrap_i64]; omega
    have HBL := hid1 (pblank_any M (by omega))
    have HBV := hid1 bv
    have HCH := hid1 rch
    have HBU := hid1 BU
    clear bv rch BU hw
    go_wp2_with fail
    refine (HBL.out U).mono ?_
    rintro e y2 ⟨G1, G2, rfl, hG1, hG2, hne, r1, r2, hb⟩
    have bv := keepr hb HBV.out
    have rch := keepr hb HCH.out
    have BY2 := bl_step HBU.out hb
    have lU := HBV.out.lt
    have lc := HCH.out.lt
    have z2 := HBU.out.size
    clear hb HBV HCH HBU c12 d0 d1 HBL
    have f14 := bv.frozen 14
    have f15 := bv.frozen 15
    have f16 := bv.frozen 16
    have f17 := bv.frozen 17
    have c14 := bv.cell (i := 14) (by omega)
    have c15 := bv.cell (i := 15) (by omega)
    have c16 := bv.cell (i := 16) (by omega)
    have c17 := bv.cell (i := 17) (by omega)
    simp only [Vw.f] at c14 c15 c16 c17
    have HBV := hid1 bv
    have HCH := hid1 rch
    have HR1 := hid1 r1
    have HR2 := hid1 r2
    have HBY := hid1 BY2
    clear bv rch r1 r2 BY2
    go_wp2_with fail
    have EM := hid1 eM
    have hkd : ∀ k, k < P → k * nw C + nw C ≤ M := fun k hk => by rw [← eM, ← Nat.succ_mul]; exact Nat.mul_le_mul_right _ hk
    have HKD := hid1 hkd
    clear hkd eM f14 f15 f16 f17 c14 c15 c16 c17
    obtain ⟨vw, evw⟩ : ∃ vw : Vw, (⟨H, V, C, some ⟨g, o, none⟩, m, cap, r, s, sy, sx, t, l, b, q, nw C, some ⟨ch, 0, none⟩, nw C, bt M G1 0, bt M G2 0⟩ : Vw) = vw := ⟨_, rfl⟩
    have HVW := hid1 evw
    go_loopw [8] (fun i wr => ∃ k : Nat, k ≤ P ∧ i = .int .i64 ((k * nw C : Nat) : Int) ∧ wr.rowIs (w.heap.size + 3) 56 18 vw.f ∧ wr.rowIs ch 41 (nw C) (wf (ful C)) ∧ wr.rowIs G1 41 M (wf (bdN (nw C) P xs k)) ∧ wr.rowIs G2 41 M (wf (bdN (nw C) P xm k)) ∧ Below X.heap.size X wr) (fun i _ => M - (intOf i).toNat)
    case atStart =>
      have bt0 : But (w.heap.size + 3) y2 ((((y2.setCell ⟨w.heap.size + 3, 14, none⟩ (.int .i64 ((64 * M : Nat) : Int))).setCell ⟨w.heap.size + 3, 15, none⟩ (.slice (some ⟨G1, 0, none⟩) M M)).setCell ⟨w.heap.size + 3, 16, none⟩ (.int .i64 ((64 * M : Nat) : Int))).setCell ⟨w.heap.size + 3, 17, none⟩ (.slice (some ⟨G2, 0, none⟩) M M)) := ((((But.refl _ _).set _).set _).set _).set _
      refine ⟨0, Nat.zero_le _, by simp, by rw [← evw]; exact vw_set14 HBV.out (bt M G1 0) (bt M G2 0), bt0.row (by omega) HCH.out, ?_, ?_, bt0.below (by omega) (by have := HBY.out.size; omega) HBY.out⟩
      · rw [bdN_zero]; exact bt0.row (by omega) HR1.out
      · rw [bdN_zero]; exact bt0.row (by omega) HR2.out
    case round =>
      clear HBV HCH HR1 HR2 HBY evw
      obtain ⟨k, hk, rfl, bv, rch, r1, r2, BR⟩ := hrel
      have c12 := bv.cell (i := 12) (by omega)
      have c13 := bv.cell (i := 13) (by omega)
      have c15 := bv.cell (i := 15) (by omega)
      have c17 := bv.cell (i := 17) (by omega)
      rw [← HVW.out] at c12 c13 c15 c17
      simp only [Vw.f] at c12 c13 c15 c17
      have HBV := hid1 bv
      have HCH := hid1 rch
      have HR1 := hid1 r1
      have HR2 := hid1 r2
      have HBR := hid1 BR
      have lG1 := r1.lt
      have lG2 := r2.lt
      clear bv rch r1 r2 BR
      by_cases hlt : k < P
      · have hkm := HKD.out k hlt
        have hs1 : (k + 1) * nw C = k * nw C + nw C := Nat.succ_mul _ _
        obtain ⟨x, ex⟩ : ∃ x, k * nw C = x := ⟨_, rfl⟩
        have EX := hid1 ex
        have HBC := hid1 (fun (W : World) G (row : W.rowIs G 41 M (wf (bdN (nw C) P (ful C) k))) (src : W.rowIs ch 41 (nw C) (wf (ful C))) => bd_copy (by omega : 0 < C) hlt EM.out row src)
        rw [ex] at hkm hs1 HBC ⊢
        clear ex
        have ix : (x : Int) < (M : Int) := by omega
        have ix0 : (0 : Int) ≤ (x : Int) := by omega
        have wx : IntKind.i64.wrap ((x : Int) + (nw C : Int)) = ((x + nw C : Nat) : Int) := by rw [IntKind.wrap_i64]; omega
        have n1 : ¬ M = x := by omega
        have hxM : x ≤ M := by omega
        have n2 : ¬ M - x = 0 := by omega
        have hend : ∀ (W : World) (xs xm : Nat), W.rowIs (w.heap.size + 3) 56 18 vw.f → W.rowIs ch 41 (nw C) (wf (ful C)) → W.rowIs G1 41 M (wf (bdN (nw C) P xs (k + 1))) → W.rowIs G2 41 M (wf (bdN (nw C) P xm (k + 1))) → Below X.heap.size X W → (∃ k' : Nat, k' ≤ P ∧ Value.int .i64 ((x : Int) + (nw C : Int)) = .int .i64 ((k' * nw C : Nat) : Int) ∧ W.rowIs (w.heap.size + 3) 56 18 vw.f ∧ W.rowIs ch 41 (nw C) (wf (ful C)) ∧ W.rowIs G1 41 M (wf (bdN (nw C) P xs k')) ∧ W.rowIs G2 41 M (wf (bdN (nw C) P xm k')) ∧ Below X.heap.size X W) := fun W xs xm h1 h2 h3 h4 h5 => ⟨k + 1, hlt, by rw [hs1]; simp, h1, h2, h3, h4, h5⟩
        have HEND := hid1 hend
        clear hend hs1
        rcases (show bd = -1 ∨ bd = 0 ∨ bd = 1 by omega) with e | e | e
        · subst e
          obtain rfl : xs = 0 := by rw [HXS.out]; rfl
          obtain rfl : xm = ful C := by rw [HXM.out]; rfl
          rw [bdN_none] at HR1
          obtain ⟨W3, hcp, R3, bt3⟩ := HBC.out wr.drew G2 HR2.out.drew HCH.out.drew
          have g12 := bt3.cell (show w.heap.size + 3 ≠ G2 by omega) (b := w.heap.size + 3) (o := 12) (v := .int .i64 (nw C : Nat)) c12
          have HX := hid1 (HEND.out W3 0 (ful C) (bt3.row (by omega) HBV.out.drew) (bt3.row (by omega) HCH.out.drew) (by rw [bdN_none]; exact bt3.row (by omega) HR1.out.drew) R3 (bt3.below (by omega) HBR.out.size HBR.out.drew))
          clear HBV HCH HR1 HR2 HBR HBC R3 bt3 HEND
          go_wp2_with fail
          refine still_tail 8 (by kernel_rfl) ?_
          simp only [List.take_succ_cons, List.take_zero, List.drop_succ_cons, List.drop_zero]
          repeat still_step
          refine wpStill_nil ?_
          go_wp2_with fail
          exact ⟨HX.out, by simp [intOf]; omega⟩
        · subst e
          obtain rfl : xs = 0 := by rw [HXS.out]; rfl
          obtain rfl : xm = 0 := by rw [HXM.out]; rfl
          rw [bdN_none] at HR1 HR2
          have HX := hid1 (HEND.out wr 0 0 HBV.out HCH.out (by rw [bdN_none]; exact HR1.out) (by rw [bdN_none]; exact HR2.out) HBR.out)
          clear HBV HCH HR1 HR2 HBR HBC HEND
          go_wp2_with fail
          exact ⟨HX.out, by simp [intOf]; omega⟩
        · subst e
          obtain rfl : xs = ful C := by rw [HXS.out]; rfl
          obtain rfl : xm = ful C := by rw [HXM.out]; rfl
          obtain ⟨W3, hcp, R3, bt3⟩ := HBC.out wr.drew G2 HR2.out.drew HCH.out.drew
          have R1' := bt3.row (b := G1) (by omega) HR1.out.drew
          have CH' := bt3.row (b := ch) (by omega) HCH.out.drew
          obtain ⟨W4, hcp4, R4, bt4⟩ := HBC.out W3.drew G1 R1'.drew CH'.drew
          have g13 := bt3.cell (show w.heap.size + 3 ≠ G2 by omega) (b := w.heap.size + 3) (o := 13) c13
          have g15 := bt3.cell (show w.heap.size + 3 ≠ G2 by omega) (b := w.heap.size + 3) (o := 15) c15
          have g12 := bt4.cell (show w.heap.size + 3 ≠ G1 by omega) (b := w.heap.size + 3) (o := 12) (bt3.cell (show w.heap.size + 3 ≠ G2 by omega) (b := w.heap.size + 3) (o := 12) c12)
          have HX := hid1 (HEND.out W4 (ful C) (ful C) (bt4.row (by omega) (bt3.row (by omega) HBV.out.drew).drew) (bt4.row (by omega) CH'.drew) R4 (bt4.row (by omega) R3.drew) (bt4.below (by omega) (Nat.le_trans HBR.out.size bt3.size) (bt3.below (by omega) HBR.out.size HBR.out.drew).drew))
          clear HBV HCH HR1 HR2 HBR HBC R3 bt3 HEND R4 bt4 R1' CH'
          go_wp2_with fail
          refine still_tail 8 (by kernel_rfl) ?_
          simp only [List.take_succ_cons, List.take_zero, List.drop_succ_cons, List.drop_zero]
          repeat still_step
          refine wpStill_nil ?_
          go_wp2_with fail
          refine still_tail 8 (by kernel_rfl) ?_
          simp only [List.take_succ_cons, List.take_zero, List.drop_succ_cons, List.drop_zero]
          repeat still_step
          refine wpStill_nil ?_
          go_wp2_with fail
          exact ⟨HX.out, by simp [intOf]; omega⟩
      · have hkP : k = P := by omega
        subst hkP
        have bv := HBV.out
        have br := keepr HBR.out HB2.out
        rw [EM.out]
        go_upto_region 12 with fail
        refine wp_region_list ?_
        refine wpList_load_mid rfl 56 _ rfl (w.heap.size + 3) 0 (by go_simp) vw.ls _ (vw_range bv) Try.underlying56 rfl info_vw ?_
        refine wpList_store_mid rfl 56 _ _ rfl (w.heap.size + 2) 0 vw.ls.toArray (by go_simp) (by go_simp) (vw_there br) info_vw vw.ls_one ?_
        go_wp2_with fail
        have btz := setCells_but (w.heap.size + 2) vw.ls 0 wr
        refine bodyPost_ret (results_cell_mid Try.results15 _ _ (w.heap.size + 2) 0 vw.ls _ (by go_simp) (World.rangeAt_setCells_same wr _ 0 vw.ls (vw_there br)) Try.underlying56 rfl info_vw) rfl ?_
        refine ⟨ch, G1, G2, by rw [eP, EM.out, HVW.out]; rfl, by omega, by omega, by omega, ?_, ?_, ?_, ?_⟩
        · exact btz.row (by omega) HCH.out
        · rw [eP, EM.out, ← bdN_all]; exact btz.row (by omega) HR1.out
        · rw [eP, EM.out, ← bdN_all]; exact btz.row (by omega) HR2.out
        · have BW := bl_step BX HBR.out
          exact btz.below (by omega) BW.size BW
end Go.Proofs.Ytohkiknhjcibgaa
