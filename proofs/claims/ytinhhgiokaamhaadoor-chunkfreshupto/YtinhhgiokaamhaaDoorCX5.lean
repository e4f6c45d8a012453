/- CHUNKFRESH: take. -/
import Derived.Test.YtinhhgiokaamhaaDoorCX4
namespace Go.Proofs.YtinhhgiokaamhaaDoor
open Go.RowKit

/-- An answer's own blocks. -/
def Ab (bo : Option Addr) (bn : Nat) (co : Option Addr) (cn cc : Nat) (gs : List Nat) : Nat → Prop := fun b => (Value.slice bo bn bn).ownBlock = some b ∨ (Value.slice co cn cc).ownBlock = some b ∨ b ∈ gs
/-- The blocks that the Book has, k Bodies taken. -/
def Bj (B : Nat → Prop) (bo : Option Addr) (bn : Nat) (gs : List Nat) (z k : Nat) : Nat → Prop := fun b => B b ∨ (Value.slice bo bn bn).ownBlock = some b ∨ (∃ j, j < k ∧ gs[j]? = some b) ∨ z ≤ b
def Bq (B : Nat → Prop) (bo : Option Addr) (bn : Nat) (gs : List Nat) (k : Nat) : Nat → Prop := fun b => B b ∨ (Value.slice bo bn bn).ownBlock = some b ∨ ∃ j, j < k ∧ gs[j]? = some b
theorem own_more {w : World} {T z n cap k M : Nat} {co : Option Addr} {xs : List Value} (h : w.ownsRow z T 2 (.slice co n cap) k xs) (hM : M ≤ cap) : ∃ ys, w.ownsRow 0 T 2 (.slice co M cap) M ys := by
  rcases h.2 with ⟨e, _⟩ | ⟨g, c, cur, e, _, hg, _, h5, h6, _⟩
  · injection e with e1 e2 e3
    subst e1 e3
    obtain rfl : M = 0 := by omega
    exact ⟨[], World.ownsRow_nil _ _ _ _⟩
  · injection e with e1 e2 e3
    subst e1 e3
    refine ⟨cur.toList.take (M * 2), by simp; omega, .inr ⟨g, cap, cur, rfl, Nat.zero_le _, hg, hM, h5, h6, rfl⟩⟩
theorem mkc_list {ys : List Value} {t : Int} {k : Nat} (hl : ys.length = k) (h : ∀ j, j < k → ys[j]? = some (mkc t j)) : ys = rowL (mkc t) k := by
  refine List.ext_getElem? fun j => ?_
  by_cases hj : j < k
  · rw [h j hj]
    simp [rowL, hj]
  · rw [List.getElem?_eq_none (by omega), List.getElem?_eq_none (by simp [rowL]; omega)]
theorem step_append_own2 {ops : Array Oper} {o : Oper} {a : Act} {w : World} {K : Act → World → Prop} {Q : Exit → Act → World → Prop} {E : Prop}
    (hg : o.guard = none) (s x : Operand) (t : TypeId) (hop : o.op = Op.call { callee := Callee.builtin Builtin.append, args := #[s, x], argTypes := #[t, t] })
    (base : Nat) (e : TypeId) (i : TypeInfo) (z : Value) (size bytes : Nat) (ht : Tryd.prog.underlying t = some (.slice e)) (hi : Tryd.prog.info? e = some i) (hz : i.zero = some z)
    (hsize : i.size = size) (hby : i.bytes = bytes) (hzs : z.cells.size = size) (hsz : 0 < size)
    (v : Value) (n : Nat) (xs : List Value) (hs : a.eval s = v) (hown : w.ownsRow base e size v n xs)
    (ad : Addr) (m c : Nat) (news : List Value) (hx : a.eval x = .slice (some ad) m c) (hl : news.length = m * size) (hnews : ∀ j u, news[j]? = some u → w.cell? (ad.add j) = some u) (h1 : ∀ u ∈ news, u.oneCell' = true)
    (h63 : n + m ≤ maxLen) (hbytes : (n + m) * bytes ≤ 140737488355328) (hbase : base ≤ w.heap.size)
    (hK : ∀ v' w', w'.ownsRow base e size v' (n + m) (xs ++ news) → w.grownBy w' v.ownBlock → (v'.ownBlock = v.ownBlock ∨ v'.ownBlock = some w.heap.size) → K (a.put o.dst v') w') :
    if Region.wanted o (yielded ops a.tmps) = true then Oper.wp Tryd.prog o a w K Q else E := by
  have hw : Region.wanted o (yielded ops a.tmps) = true := by simp [Region.wanted, hg]
  rw [if_pos hw]
  obtain ⟨v', w', hr, h2, h3, h4, h5⟩ := run_append_own_at (P := Tryd.prog) w base t o.type e i z size bytes ht hi hz hsize hby hzs hsz v n xs hown ad m c news hl hnews h1 h63 hbytes hbase
  unfold Oper.wp execOp
  simp only [hop, resolve, invoke, builtin, Sem.run_bind, Sem.run_pure, Result.andThen_ok, List.map_toArray, List.map_cons, List.map_nil, hs, hx, hr]
  exact hK _ _ h2 h3 h5
theorem info_cks : (Tryd.prog.info? 28).map (fun i => (i.zero, i.size, i.bytes)) = some (some (.slice none 0 0), 1, 24) := by kernel_rfl
theorem und_ckss : Tryd.prog.underlying 56 = some (.slice 28) := by kernel_rfl
section
variable {w w1 : World} {B : Nat → Prop} {bb : Nat} {vy vl vl' : Value} {mu : Int} {ny nl : Nat} {ao : Nat → Option Addr} {n c : Nat → Nat} {lo : Nat → Option Addr} {m d : Nat → Nat}
/-- The list of lists of chunks is another one. -/
theorem Bk.onL {nl' : Nat} {lo' : Nat → Option Addr} {m' d' : Nat → Nat} (h : Bk w B bb vy vl mu ny nl ao n c lo m d) (hu : BP (fun b => vl.ownBlock = some b) w w1) (hl : Wg w1 28 vl' nl' (sv lo' m' d')) (hg : ∀ g, vl'.ownBlock = some g → B g)
    (he : ∀ i, i < nl' → w1.ownsRow 0 37 2 (.slice (lo' i) (m' i) (d' i)) (m' i) (rowL (mkc (tgm i)) (m' i * 2))) (hb : ∀ i, i < nl' → ∀ g, (Value.slice (lo' i) (m' i) (d' i)).ownBlock = some g → B g) :
    Bk (w1.setCell ⟨bb, 1, none⟩ vl') B bb vy vl' mu ny nl' ao n c lo' m' d' := by
  have h1 : w1.rowIs bb 58 3 (bkf vy vl mu) := hu.row (fun e => h.l.ne h.h (by decide) e) h.h
  have hy : Wg w1 23 vy ny (sv ao n c) := h.y.bp hu fun g e e2 => by
    obtain ⟨_, _, r⟩ := h.y.row e
    exact h.l.ne r (by decide) e2
  have hey : ∀ i, i < ny → w1.ownsRow 0 5 1 (.slice (ao i) (n i) (c i)) (n i) (u8s (nms i (n i))) := fun i hi => own_keep hu (h.ey i hi) fun g e e2 => by
    obtain ⟨_, _, r⟩ := h.l.row e2
    exact own_row_ne (h.ey i hi) r (by decide) e
  have hu2 : BP (· = bb) w1 (w1.setCell ⟨bb, 1, none⟩ vl') := BP.self _ _ _ _
  refine ⟨(h1.set 1 _).congr fun j hj => ?_, hy.bp hu2 fun g e e2 => hy.ne h1 (by decide) (e.trans (by rw [e2])), hl.bp hu2 fun g e e2 => hl.ne h1 (by decide) (e.trans (by rw [e2])), fun i hi => own_keep hu2 (hey i hi) fun g e e2 => own_row_ne (hey i hi) h1 (by decide) (e.trans (by rw [e2])), fun i hi => own_keep hu2 (he i hi) fun g e e2 => own_row_ne (he i hi) h1 (by decide) (e.trans (by rw [e2])), h.ev, h.sm, h.s.1, h.s.2.1, hg, h.s.2.2.2.1, hb⟩
  rcases (show j = 0 ∨ j = 1 ∨ j = 2 by omega) with rfl | rfl | rfl <;> rfl
/-- take's end: the lists l and what was appended to it are laid into the Book. -/
theorem Bk.endL {V y3 : World} {B' : Nat → Prop} {co : Option Addr} {M cc g2 c2 : Nat} {o3 : Option Addr} {n3 c3 : Nat} (h : Bk w B bb vy vl mu ny nl ao n c lo m d) (hel : nl % 2 = 0) (hB : ∀ b, B b → B' b) (hV : BP (fun b => (Value.slice co M cc).ownBlock = some b) w V) (hco : ∀ g, (Value.slice co M cc).ownBlock = some g → ¬ B g ∧ B' g)
    (hl : V.ownsRow 0 37 2 (.slice co M cc) M (rowL (mkc (tgm nl)) (M * 2))) (h2 : V.ownsRow 0 37 2 (.slice (some ⟨g2, 0, none⟩) (M + 1) c2) (M + 1) (rowL (mkc (tgm nl)) ((M + 1) * 2))) (hg2 : B' g2)
    (hy : BP (fun b => vl.ownBlock = some b) V y3) (h3 : y3.ownsRow 0 28 1 (.slice o3 n3 c3) (nl + 2) (rowL (sv lo m d) nl ++ [.slice co M cc, .slice (some ⟨g2, 0, none⟩) (M + 1) c2])) (hg3 : ∀ g, (Value.slice o3 n3 c3).ownBlock = some g → B' g) :
    Bi (y3.setCell ⟨bb, 1, none⟩ (.slice o3 n3 c3)) B' bb ny (nl + 2) := by
  have hV' : Bk V B bb vy vl mu ny nl ao n c lo m d := h.bp hV fun b hb e => (hco b e).1 hb
  have hw : Wg y3 28 (.slice o3 n3 c3) (nl + 2) (sv (upd2 lo nl co (some ⟨g2, 0, none⟩)) (upd2 m nl M (M + 1)) (upd2 d nl cc c2)) := (wg_of h3 fun q hq => two_at hq).congr fun q _ => sv_upd2 q
  have kp : ∀ {v k xs}, V.ownsRow 0 37 2 v k xs → y3.ownsRow 0 37 2 v k xs := fun hx => own_keep hy hx fun g e e2 => by
    obtain ⟨_, _, r⟩ := hV'.l.row e2
    exact own_row_ne hx r (by decide) e
  refine ⟨_, _, _, _, _, _, _, _, _, (hV'.sub (T := B') fun b hb _ => hB b hb).onL hy hw hg3 (fun i hi => ?_) fun i hi g e => ?_⟩
  · by_cases h1 : i < nl
    · rw [upd2_o _ _ _ h1, upd2_o _ _ _ h1, upd2_o _ _ _ h1]
      exact kp (hV'.el i h1)
    · rcases (show i = nl ∨ i = nl + 1 by omega) with rfl | rfl
      · rw [upd2_a, upd2_a, upd2_a]; exact kp hl
      · rw [upd2_b, upd2_b, upd2_b, tgm_odd hel]; exact kp h2
  · by_cases h1 : i < nl
    · rw [upd2_o _ _ _ h1, upd2_o _ _ _ h1, upd2_o _ _ _ h1] at e
      exact hB g (hV'.s.2.2.2.2 i h1 g e)
    · rcases (show i = nl ∨ i = nl + 1 by omega) with rfl | rfl
      · rw [upd2_a, upd2_a, upd2_a] at e
        exact (hco g e).2
      · rw [upd2_b, upd2_b, upd2_b] at e
        rw [ob_some e]; exact hg2
end
theorem rowL_two (t : Int) (M : Nat) : rowL (mkc t) (M * 2) ++ [.int .u32 t, .slice none 0 0] = rowL (mkc t) ((M + 1) * 2) := by
  rw [show (M + 1) * 2 = M * 2 + 1 + 1 by omega]
  unfold rowL
  rw [List.range_succ, List.range_succ]
  simp [mkc]
theorem own_olds2 {w : World} {T n : Nat} {la : Option Addr} {k cap : Nat} {xs : List Value} (h : w.ownsRow 0 T 2 (.slice la k cap) n xs) : (la = none → k = 0 ∧ cap = 0) ∧ ∀ b, la = some b → ∀ j u, xs[j]? = some u → w.cell? (b.add j) = some u := by
  rcases h.2 with ⟨e, h0⟩ | ⟨g, cap', cur, hv, _⟩
  · injection e with e1 e2 e3
    subst e1 e2 e3
    exact ⟨fun _ => ⟨rfl, rfl⟩, fun b e => by cases e⟩
  · injection hv with e1 e2 e3
    subst e1
    refine ⟨fun e => (by cases e), fun b e j u hj => ?_⟩
    injection e with e
    subst e
    exact h.cells rfl j u hj
theorem own_cap {w : World} {T n k cap : Nat} {co : Option Addr} {xs : List Value} (h : w.ownsRow 0 T 2 (.slice co n cap) k xs) : cap ≤ maxLen := by
  rcases h.2 with ⟨e, _⟩ | ⟨g, c, cur, e, _, hg, _, h5, h6, _⟩
  · injection e with e1 e2 e3
    subst e3; exact Nat.zero_le _
  · injection e with e1 e2 e3
    subst e3; exact h5
theorem own_grow {w : World} {T M cap : Nat} {co : Option Addr} {t : Int} (h : w.ownsRow 0 T 2 (.slice co M cap) M (rowL (mkc t) (M * 2))) (hM : M < cap) : ∃ gl F, co = some ⟨gl, 0, none⟩ ∧ w.rowIs gl T (cap * 2) F ∧ ∀ p, p < M * 2 → F p = mkc t p := by
  rcases h.2 with ⟨e, _⟩ | ⟨g, c, cur, e, _, hg, h4, h5, h6, h7⟩
  · injection e with e1 e2 e3
    omega
  · injection e with e1 e2 e3
    subst e1 e3
    refine ⟨g, fun k => cur[k]?.getD undef, rfl, ⟨cur, hg, by omega, fun i hi => ?_⟩, fun p hp => ?_⟩
    · simp [Array.getElem?_eq_getElem (show i < cur.size by omega)]
    · have h8 : (cur.toList.take (M * 2))[p]? = (rowL (mkc t) (M * 2))[p]? := by rw [h7]
      rw [List.getElem?_take_of_lt hp, Array.getElem?_toList] at h8
      show cur[p]?.getD undef = mkc t p
      rw [h8]
      simp [rowL, hp]
theorem own_of_row2 {w : World} {T g cap n : Nat} {f : Nat → Value} (h : w.rowIs g T (cap * 2) f) (hn : n ≤ cap) (hc : cap ≤ maxLen) : w.ownsRow 0 T 2 (.slice (some ⟨g, 0, none⟩) n cap) n (rowL f (n * 2)) := by
  obtain ⟨c, hb, hs, hf⟩ := h
  refine ⟨by simp [rowL], .inr ⟨g, cap, c, rfl, Nat.zero_le _, hb, hn, hc, by omega, ?_⟩⟩
  refine List.ext_getElem? fun i => ?_
  by_cases hi : i < n * 2
  · rw [List.getElem?_take_of_lt hi, Array.getElem?_toList, hf i (by omega)]
    simp [rowL, hi]
  · rw [List.getElem?_eq_none (by simp; omega), List.getElem?_eq_none (by simp [rowL]; omega)]
theorem room_spare {w : World} {gl M cc : Nat} {F : Nat → Value} {t : Int} (h : w.rowIs gl 37 (cc * 2) F) (hr : M + 1 ≤ cc) : ∀ V, Below w.heap.size w V → ∀ j, j < ([Value.int .u32 t, .slice none 0 0] : List Value).length → (V.cell? ⟨gl, 0 + M * 2 + j, none⟩).isSome = true ∧ V.frozen? ⟨gl, 0 + M * 2 + j, none⟩ = false := fun V hV j hj => by
  simp at hj
  have r := keepr hV h
  exact ⟨by rw [r.cell (i := 0 + M * 2 + j) (by omega)]; rfl, r.frozen _⟩
theorem room_laid {w : World} {gl M cc : Nat} {F : Nat → Value} {t : Int} (h : w.rowIs gl 37 (cc * 2) F) (hF : ∀ p, p < M * 2 → F p = mkc t p) (hr : M + 1 ≤ cc) (hc : cc ≤ maxLen) : ∀ V, Below w.heap.size w V →
    BP (· = gl) w (V.setCells gl (0 + M * 2) [.int .u32 t, .slice none 0 0]) ∧ (V.setCells gl (0 + M * 2) [.int .u32 t, .slice none 0 0]).ownsRow 0 37 2 (.slice (some ⟨gl, 0, none⟩) M cc) M (rowL (mkc t) (M * 2)) ∧ (V.setCells gl (0 + M * 2) [.int .u32 t, .slice none 0 0]).ownsRow 0 37 2 (.slice (some ⟨gl, 0, none⟩) (M + 1) cc) (M + 1) (rowL (mkc t) ((M + 1) * 2)) := fun V hV => by
  have e : V.setCells gl (0 + M * 2) [.int .u32 t, .slice none 0 0] = (V.setCell ⟨gl, M * 2, none⟩ (.int .u32 t)).setCell ⟨gl, M * 2 + 1, none⟩ (.slice none 0 0) := by simp [World.setCells]
  rw [e]
  have r := ((keepr hV h).set (M * 2) (.int .u32 t)).set (M * 2 + 1) (.slice none 0 0)
  have r2 : ((V.setCell ⟨gl, M * 2, none⟩ (.int .u32 t)).setCell ⟨gl, M * 2 + 1, none⟩ (.slice none 0 0)).rowIs gl 37 (cc * 2) (fun p => if p < (M + 1) * 2 then mkc t p else F p) := r.congr fun p hp => by
    by_cases e1 : p = M * 2 + 1
    · subst e1; rw [if_pos rfl, if_pos (by omega)]; simp [mkc]
    · rw [if_neg e1]
      by_cases e2 : p = M * 2
      · subst e2; rw [if_pos rfl, if_pos (by omega)]; simp [mkc]
      · rw [if_neg e2]
        by_cases e3 : p < (M + 1) * 2
        · rw [if_pos e3]; exact hF p (by omega)
        · rw [if_neg e3]
  have l1 : ∀ k, k ≤ M + 1 → rowL (fun p => if p < (M + 1) * 2 then mkc t p else F p) (k * 2) = rowL (mkc t) (k * 2) := fun k hk => List.map_congr_left fun p hp => by
    have : p < k * 2 := by simpa using hp
    rw [if_pos (by omega)]
  refine ⟨((BP.bel hV : BP (· = gl) w V).on1 _ _).on1 _ _, ?_, ?_⟩
  · rw [← l1 M (by omega)]; exact own_of_row2 r2 (by omega) hc
  · rw [← l1 (M + 1) (Nat.le_refl _)]; exact own_of_row2 r2 hr hc
set_option maxHeartbeats 6400000 in
set_option maxRecDepth 100000 in
theorem take_any (B : Nat → Prop) (bb ny nl : Nat) (bo : Option Addr) (bn : Nat) (bs : List Nat) (co : Option Addr) (cn cc : Nat) (cs : List Ck) (gs : List Nat) (s e0 : Int) (z : Nat) (w : World) (hb : Bi w B bb ny nl) (hny : ny ≤ 4000000000000) (hnl : nl ≤ 4000000000000) (hev : ny % 2 = 0) (hel : nl % 2 = 0) (hbn : bn ≤ 16777216) (hcn : cn ≤ 1024) (hcb : ∀ x ∈ cs, x.2.length ≤ 16777216)
    (hO : w.ownsRow z 5 1 (.slice bo bn bn) bn (u8s bs)) (hA : Ans w z (.slice co cn cc) cs gs) (hB : ∀ b, B b → ¬ Ab bo bn co cn cc gs b ∧ b < w.heap.size) (hne : ∀ g ∈ gs, (Value.slice bo bn bn).ownBlock ≠ some g) :
    Calls Tryd.prog 19 #[.pointer (some ⟨bb, 0, none⟩), tld bo bn bn co cn cc s e0] w fun e w' => e = .returned (.tuple #[]) ∧ (∃ ny' nl', ny' ≤ ny + 2050 ∧ nl' ≤ nl + 2 ∧ ny' % 2 = 0 ∧ nl' % 2 = 0 ∧ Bi w' (fun b => B b ∨ Ab bo bn co cn cc gs b ∨ w.heap.size ≤ b) bb ny' nl') ∧ BP (fun b => B b ∨ Ab bo bn co cn cc gs b) w w' := by
  have HB := hid1 hb
  have HO := hid1 hO
  have HA := hid1 hA
  have HBB := hid1 hB
  have HNE := hid1 hne
  have HCB := hid1 hcb
  have ecn := hA.cs.1
  have ECN := hid1 ecn
  obtain ⟨xo', xc', ev', hcc, _⟩ := hA.val
  have hccn : cn ≤ cc := by
    injection ev' with e1 e2 e3
    omega
  have ib0 : (0 : Int) ≤ (bn : Int) := by omega
  have ib1 : (bn : Int) ≤ 16777216 := by omega
  have ic0 : (0 : Int) ≤ (cn : Int) := by omega
  have ic1 : (cn : Int) ≤ 1024 := by omega
  clear hb hO hA hB hne hcb ecn ev' hcc
  go_enter Tryd.func19, Tryd.ntmps19
  go_upto_region 1 with fail
  refine gen_world (fun W => Below w.heap.size w W ∧ W.rowIs w.heap.size 47 4 (tf (.slice bo bn bn) (.slice co cn cc) s e0) ∧ W.heap.size = w.heap.size + 1) ⟨bl_alloc (Below.refl _ _) _, tf_new _ _ _ _ _ _, by simp⟩ ?_
  rintro W ⟨hW, rW, zW⟩
  have hbW := HB.out.below hW
  have HBW := hid1 hbW
  have HOW := hid1 (own_keep (S := fun _ => False) (BP.bel hW) HO.out fun _ _ h => h)
  have HAW := hid1 (HA.out.keep hW)
  have HRW := hid1 rW
  have t0 : W.cell? ⟨w.heap.size, 0, none⟩ = some (.slice bo bn bn) := rW.cell (by omega)
  have t1 : W.cell? ⟨w.heap.size, 1, none⟩ = some (.slice co cn cc) := rW.cell (by omega)
  have HOB := hid1 HO.out.lt
  have HAB := hid1 HA.out.lt
  have HW := hid1 hW
  have ZW := hid1 zW
  obtain ⟨tb, etb⟩ : ∃ x, w.heap.size = x := ⟨_, rfl⟩
  rw [etb] at t0 t1 ⊢
  have ETB := hid1 etb
  clear hbW hW rW zW etb HB HO HA
  have htbB : ∀ k, ¬ Bq B bo bn gs k tb := fun k h => by
    have e := ETB.out
    rcases h with h | h | ⟨j, _, h⟩
    · have := (HBB.out tb h).2; omega
    · have := (HOB.out tb h).2; omega
    · have := (HAB.out tb (List.mem_of_getElem? h)).2; omega
  have hlB : ∀ k g, (Value.slice co cn cc).ownBlock = some g → ¬ Bq B bo bn gs k g := fun k g e h => by
    rcases h with h | h | ⟨j, _, h⟩
    · exact (HBB.out g h).1 (.inr (.inl e))
    · exact own_ne HAW.out.own HOW.out (by decide) g e h
    · exact HAW.out.apart g (List.mem_of_getElem? h) e
  have HTB := hid1 htbB
  have HLB := hid1 hlB
  clear htbB hlB
  go_cut [4] (fun s4 wx => (∃ n : Int, s4 = .int .i64 n) ∧ Below W.heap.size W wx)
  case first =>
    go_quiet ((go_at_call 38; exact Calls.quiet_of_same (most_any _ _ (by omega) _)))
    refine meet_of (by assumption) ?_
    go_meet
    exact ⟨⟨_, rfl⟩, bl_drewN (Below.refl _ _) _⟩
  case rest =>
    obtain ⟨⟨n1, rfl⟩, hb1⟩ := hcut
    go_wp2_with fail
    go_loopw [4, 5] (fun s4 s5 wx => ∃ (n : Int) (i : Nat), s4 = .int .i64 n ∧ i ≤ cn ∧ s5 = .int .i64 i ∧ Below W.heap.size W wx) (fun _ s5 _ => cn - (intOf s5).toNat)
    case atStart => exact ⟨n1, 0, rfl, Nat.zero_le _, rfl, hb1⟩
    case round =>
      clear hb1
      obtain ⟨n2, i, rfl, hi, rfl, hb1⟩ := hrel
      have ii0 : (0 : Int) ≤ (i : Int) := by omega
      have t1' := keepc hb1 t1
      have t0' := keepc hb1 t0
      by_cases hlt : i < cn
      · have ii : (i : Int) < (cn : Int) := by omega
        have hic : i < cs.length := by rw [← ECN.out]; exact hlt
        have hig : i < gs.length := by rw [← HAW.out.len]; exact hic
        obtain ⟨gl, e⟩ : ∃ gl, co = some ⟨gl, 0, none⟩ := by
          rcases HAW.out.own.2 with ⟨_, h0⟩ | ⟨g, cap, cur, hv, _⟩
          · have := ECN.out; omega
          · injection hv with hv; exact ⟨g, hv⟩
        subst e
        obtain ⟨_, hcv⟩ := cvs_at (List.getElem?_eq_getElem hic) (List.getElem?_eq_getElem hig)
        have hown := HAW.out.own
        rw [← ECN.out] at hown
        have cb := keepc hb1 (show W.cell? ⟨gl, i * 2 + 1, none⟩ = some (.slice (some ⟨gs[i], 0, none⟩) cs[i].2.length cs[i].2.length) by rw [hown.cellAt (i * 2 + 1) (by omega)]; exact hcv)
        have hbl := HCB.out _ (List.getElem_mem hic)
        obtain ⟨ln, eln⟩ : ∃ ln, cs[i].2.length = ln := ⟨_, rfl⟩
        rw [eln] at cb hbl
        have il0 : (0 : Int) ≤ (ln : Int) := by omega
        have il1 : (ln : Int) ≤ 16777216 := by omega
        clear hown hcv eln
        go_upto_region 5 with fail
        go_quiet ((go_at_call 38; exact Calls.quiet_of_same (most_any _ _ (by omega) _)))
        go_wp2_with fail
        exact ⟨⟨_, i + 1, rfl, by omega, by go_num, bl_drewN hb1 _⟩, by simp [intOf]; omega⟩
      · have e9 : cn = i := by omega
        subst e9
        clear hlt hi ii0
        have hbi := HBW.out.below hb1
        obtain ⟨vy, vl, mu, ao, n, c, lo, m, d, hbk⟩ := hbi
        have OA := hid1 (over_any bb vy vl mu n2 wr hbk.h)
        obtain ⟨yo, yc, evy⟩ := hbk.y.val
        subst evy
        have HBK := hid1 hbk
        clear hbk
        go_wp2_with fail
        refine OA.out.mono ?_
        rintro e w2 ⟨r, mu', rfl, ew2⟩
        have hbk2 := HBK.out.over mu'
        have bp2 : BP (· = bb) wr (wr.setCell ⟨bb, 2, none⟩ (.int .i64 mu')) := BP.self _ _ _ _
        rw [← ew2] at hbk2 bp2
        have hsB : B bb := HBK.out.s.1
        have hbp2 : BP B W w2 := ((BP.refl B W).step hb1).trans bp2 fun x _ e => by rw [e]; exact hsB
        have HBI := hid1 (show Bi w2 B bb ny nl from ⟨_, _, _, _, _, _, _, _, _, hbk2⟩)
        have HBP2 := hid1 hbp2
        have d0 : w2.cell? ⟨bb, 0, none⟩ = some (.slice yo ny yc) := hbk2.h.cell (by omega)
        have tb0 : w2.cell? ⟨tb, 0, none⟩ = some (.slice bo bn bn) := hbp2.cell (fun h => HTB.out 0 (.inl h)) t0
        have HB1 := hid1 hb1
        clear OA HBK hbk2 bp2 hbp2 t0' t1' hb1 ew2
        cases r with
        | true =>
          go_wp2_with fail
          refine bodyPost_ret (v := .tuple #[]) (by simp [results, go_sem]) rfl ?_
          exact ⟨rfl, ⟨ny, nl, by omega, by omega, hev, hel, HBI.out.sub fun b h _ => .inl h⟩, ((BP.bel HW.out : BP B w W).trans HBP2.out fun _ _ h => h).mono fun b _ h => .inl h⟩
        | false =>
          have BF := hid1 (bfull_any B bb ny nl bo bn (u8s bs) w2 HBI.out (by omega) hev hbn (own_mono (own_keep HBP2.out HOW.out fun g e h => (HBB.out g h).1 (.inl e)) (Nat.zero_le _)) (fun g e h => (HBB.out g h).1 (.inl e)))
          go_wp2_with fail
          refine BF.out.mono ?_
          rintro e w3 ⟨rfl, hbi3, bp3⟩
          have zz2 := HBP2.out.size
          have hbi3' : Bi w3 (Bj B bo bn gs W.heap.size 0) bb (ny + 2) nl := hbi3.sub fun b h _ => by
            rcases h with h | h | h
            · exact .inl h
            · exact .inr (.inl h)
            · exact .inr (.inr (.inr (by omega)))
          have hbp3 : BP (Bq B bo bn gs 0) W w3 := (HBP2.out.mono fun b _ h => .inl h).trans bp3 fun b _ h => by
            rcases h with h | h
            · exact .inl h
            · exact .inr (.inl h)
          have HBI3 := hid1 hbi3'
          have HBP3 := hid1 hbp3
          clear BF hbi3 bp3 hbi3' hbp3 HBI HBP2 d0 tb0 zz2 HB1
          go_wp2_with fail
          go_loopw [7] (fun s7 wx => ∃ k : Nat, k ≤ cn ∧ s7 = .int .i64 k ∧ Bi wx (Bj B bo bn gs W.heap.size k) bb (ny + 2 + 2 * k) nl ∧ BP (Bq B bo bn gs k) W wx) (fun s7 _ => cn - (intOf s7).toNat)
          case atStart => exact ⟨0, Nat.zero_le _, rfl, HBI3.out, HBP3.out⟩
          case round =>
            clear HBI3 HBP3
            obtain ⟨k, hk, rfl, hbi, hbp⟩ := hrel
            have ik0 : (0 : Int) ≤ (k : Int) := by omega
            have tb1 : wr.cell? ⟨tb, 1, none⟩ = some (.slice co cn cc) := hbp.cell (HTB.out k) t1
            by_cases hkc : k < cn
            · have ik : (k : Int) < (cn : Int) := by omega
              have hic : k < cs.length := by rw [← ECN.out]; exact hkc
              have hig : k < gs.length := by rw [← HAW.out.len]; exact hic
              obtain ⟨gl, e⟩ : ∃ gl, co = some ⟨gl, 0, none⟩ := by
                rcases HAW.out.own.2 with ⟨_, h0⟩ | ⟨g, cap, cur, hv, _⟩
                · have := ECN.out; omega
                · injection hv with hv; exact ⟨g, hv⟩
              subst e
              obtain ⟨_, hcv⟩ := cvs_at (List.getElem?_eq_getElem hic) (List.getElem?_eq_getElem hig)
              have hown := HAW.out.own
              rw [← ECN.out] at hown
              have cb := hbp.cell (HLB.out k gl rfl) (show W.cell? ⟨gl, k * 2 + 1, none⟩ = some (.slice (some ⟨gs[k], 0, none⟩) cs[k].2.length cs[k].2.length) by rw [hown.cellAt (k * 2 + 1) (by omega)]; exact hcv)
              have hbl := HCB.out _ (List.getElem_mem hic)
              have hbo := HAW.out.body k _ _ (List.getElem?_eq_getElem hic) (List.getElem?_eq_getElem hig)
              have hgn : ¬ Bq B bo bn gs k gs[k] := fun h => by
                rcases h with h | h | ⟨j, hj, h⟩
                · exact (HBB.out _ h).1 (.inr (.inr (List.getElem_mem hig)))
                · exact HNE.out _ (List.getElem_mem hig) h
                · have := (List.getElem?_inj (by omega : j < gs.length) HAW.out.nod).1 (h.trans (List.getElem?_eq_getElem hig).symm)
                  omega
              have hbo' := own_mono (own_keep hbp hbo fun g e h => hgn (by rw [← ob_some e]; exact h)) (Nat.zero_le _)
              have hgW := (HAW.out.lt _ (List.getElem_mem hig)).2
              unfold bval at hbo'
              have BF := bfull_any (Bj B bo bn gs W.heap.size k) bb (ny + 2 + 2 * k) nl (some ⟨gs[k], 0, none⟩) cs[k].2.length (u8s cs[k].2) wr hbi (by omega) (by omega) hbl hbo' (fun g e h => by
                have := ob_some e
                subst this
                rcases h with h | h | h | h
                · exact hgn (.inl h)
                · exact hgn (.inr (.inl h))
                · exact hgn (.inr (.inr h))
                · omega)
              have GK := hid1 (List.getElem?_eq_getElem hig : gs[k]? = some gs[k])
              obtain ⟨ln, eln⟩ : ∃ ln, cs[k].2.length = ln := ⟨_, rfl⟩
              obtain ⟨gk, egk⟩ : ∃ gk, gs[k] = gk := ⟨_, rfl⟩
              rw [eln, egk] at cb BF
              rw [egk] at GK
              have HBF := hid1 BF
              have HBP := hid1 hbp
              clear hown hcv eln egk BF hbp hbi hbo hbo' hbl hgn hgW
              go_wp2_with fail
              refine HBF.out.mono ?_
              rintro e w4 ⟨rfl, hbi4, bp4⟩
              have zz := HBP.out.size
              have hbiN : Bi w4 (Bj B bo bn gs W.heap.size (k + 1)) bb (ny + 2 + 2 * (k + 1)) nl := hbi4.sub fun b h _ => by
                rcases h with (h | h | ⟨j, hj, h⟩ | h) | h | h
                · exact .inl h
                · exact .inr (.inl h)
                · exact .inr (.inr (.inl ⟨j, by omega, h⟩))
                · exact .inr (.inr (.inr h))
                · exact .inr (.inr (.inl ⟨k, by omega, by rw [GK.out, ob_some h]⟩))
                · exact .inr (.inr (.inr (by omega)))
              have hbpN : BP (Bq B bo bn gs (k + 1)) W w4 := (HBP.out.mono fun b _ h => by
                rcases h with h | h | ⟨j, hj, h⟩
                · exact .inl h
                · exact .inr (.inl h)
                · exact .inr (.inr ⟨j, by omega, h⟩)).trans bp4 fun b hb h => by
                rcases h with (h | h | ⟨j, hj, h⟩ | h) | h
                · exact .inl h
                · exact .inr (.inl h)
                · exact .inr (.inr ⟨j, by omega, h⟩)
                · omega
                · exact .inr (.inr ⟨k, by omega, by rw [GK.out, ob_some h]⟩)
              have HN1 := hid1 hbiN
              have HN2 := hid1 hbpN
              clear hbi4 bp4 hbiN hbpN HBF HBP cb tb1 zz
              go_wp2_with fail
              exact ⟨⟨k + 1, by omega, by go_num, HN1.out, HN2.out⟩, by simp [intOf]; omega⟩
            · have e9 : cn = k := by omega
              subst e9
              clear hkc hk ik0
              have EX := hid1 (extend_any (Bj B bo bn gs W.heap.size cn) bb (ny + 2 + 2 * cn) nl ny wr hbi (by omega) (by omega) hev (by omega))
              have HBP := hid1 hbp
              clear hbi hbp
              go_wp2_with fail
              refine EX.out.mono ?_
              rintro e w5 ⟨rfl, hbi5, bp5⟩
              have zz := HBP.out.size
              have hbi5' : Bi w5 (Bj B bo bn gs W.heap.size cn) bb (ny + 2 + 2 * cn) nl := hbi5.sub fun b h _ => by
                rcases h with h | h
                · exact h
                · exact .inr (.inr (.inr (by omega)))
              have hbp5 : BP (Bq B bo bn gs cn) W w5 := HBP.out.trans bp5 fun b hb h => by
                rcases h with h | h | h | h
                · exact .inl h
                · exact .inr (.inl h)
                · exact .inr (.inr h)
                · omega
              obtain ⟨vy, vl, mu5, ao5, n5, c5, lo, m, d, hbk5⟩ := hbi5'
              obtain ⟨xo, xc, evl⟩ := hbk5.l.val
              subst evl
              have d1 : w5.cell? ⟨bb, 1, none⟩ = some (.slice xo nl xc) := hbk5.h.cell (by omega)
              have tb1' : w5.cell? ⟨tb, 1, none⟩ = some (.slice co cn cc) := hbp5.cell (HTB.out cn) t1
              have HBK := hid1 hbk5
              have HBP5 := hid1 hbp5
              have il0 : (0 : Int) ≤ (nl : Int) := by omega
              have il1 : (nl : Int) ≤ 4000000000000 := by omega
              have hmo1 : mo cn cc ≤ cc := by unfold mo; split <;> omega
              have hmo2 : cn ≤ mo cn cc := by unfold mo; split <;> omega
              have hmo3 : mo cn cc ≤ cn + 70000 := by unfold mo; split <;> omega
              obtain ⟨M, eM⟩ : ∃ M, mo cn cc = M := ⟨_, rfl⟩
              have MA := hid1 (fun X => most_any cn cc (by omega) X)
              rw [eM] at hmo1 hmo2 hmo3 MA
              have EM := hid1 eM
              have iM0 : (0 : Int) ≤ (M : Int) := by omega
              have iM1 : (M : Int) ≤ (cc : Int) := by omega
              have iM2 : (M : Int) ≤ 71024 := by omega
              clear EX hbi5 bp5 hbp5 hbk5 tb1 eM zz HBP
              go_upto_region 15 with fail
              refine gen_world (fun Y => Below w5.heap.size w5 Y ∧ Y.cell? ⟨w5.heap.size, 0, none⟩ = some (.int .u32 (tgm nl)) ∧ Y.cell? ⟨w5.heap.size, 1, none⟩ = some (.slice none 0 0)) ⟨bl_alloc (Below.refl _ _) _, by simp [go_sem]; unfold tgm; simp [IntKind.wrap, IntKind.signed, IntKind.bits], by simp [go_sem]⟩ ?_
              rintro Y ⟨hY, m0, m1⟩
              obtain ⟨mb, emb⟩ : ∃ x, w5.heap.size = x := ⟨_, rfl⟩
              rw [emb] at m0 m1 ⊢
              have HY := hid1 hY
              have EMB := hid1 emb
              have tb1 := keepc hY tb1'
              clear hY emb
              go_quiet ((go_at_call 38; exact Calls.quiet_of_same (MA.out _)))
              have hoY : ∃ ys, Y.ownsRow 0 37 2 (.slice co M cc) M ys := own_more (own_keep (S := fun _ => False) (BP.bel HY.out) (own_keep HBP5.out HAW.out.own fun g e h => HLB.out cn g e h) fun _ _ h => h) hmo1
              obtain ⟨ys0, hoY⟩ := hoY
              have hgl : ∀ g, (Value.slice co M cc).ownBlock = some g → g < W.heap.size ∧ ¬ Bj B bo bn gs W.heap.size cn g := fun g e => by
                have e' : (Value.slice co cn cc).ownBlock = some g := by
                  cases co with
                  | none => simp [Value.ownBlock] at e
                  | some p => exact e
                have h1 := (HAW.out.own.lt g e').2
                refine ⟨h1, fun h => ?_⟩
                rcases h with h | h | h | h
                · exact HLB.out cn g e' (.inl h)
                · exact HLB.out cn g e' (.inr (.inl h))
                · exact HLB.out cn g e' (.inr (.inr h))
                · omega
              have HGL := hid1 hgl
              have HOY := hid1 hoY
              have z5 := HBP5.out.size
              have e5 := EMB.out
              have hmbY := lt_of_cell m0
              clear hgl hoY tb1 tb1' d1
              go_wp2_with fail
              go_loopw [10] (fun s10 wx => ∃ (j : Nat) (ys : List Value), j ≤ M ∧ s10 = .int .i64 j ∧ wx.ownsRow 0 37 2 (.slice co M cc) M ys ∧ (∀ p, p < j * 2 → ys[p]? = some (mkc (tgm nl) p)) ∧ BP (fun b => (Value.slice co M cc).ownBlock = some b) Y wx) (fun s10 _ => M - (intOf s10).toNat)
              case atStart => exact ⟨0, ys0, Nat.zero_le _, rfl, own_keep (S := fun _ => False) (BP.bel (bl_drewN (Below.refl _ _) _)) HOY.out fun _ _ h => h, fun p hp => absurd hp (by omega), (BP.refl _ _).drewN _⟩
              case round =>
                obtain ⟨j, ys, hj, rfl, hown, hq, hbp⟩ := hrel
                have ij0 : (0 : Int) ≤ (j : Int) := by omega
                by_cases hlt : j < M
                · have ij : (j : Int) < (M : Int) := by omega
                  obtain ⟨gl, e⟩ : ∃ gl, co = some ⟨gl, 0, none⟩ := by
                    rcases hown.2 with ⟨_, h0⟩ | ⟨g, cap, cur, hv, _⟩
                    · omega
                    · injection hv with hv; exact ⟨g, hv⟩
                  subst e
                  have hgm := HGL.out gl rfl
                  have hmg : mb ≠ gl := by omega
                  have m0' := hbp.cell (b := mb) (fun e => hmg (ob_some e)) m0
                  have m1' := hbp.cell (b := mb) (fun e => hmg (ob_some e)) m1
                  have hlen : ys.length = M * 2 := hown.1
                  obtain ⟨u0, hc0⟩ : ∃ u, wr.cell? ⟨gl, j * 2, none⟩ = some u := by
                    have h := hown.cellAt (j * 2) (by omega)
                    rw [List.getElem?_eq_getElem (by omega)] at h
                    exact ⟨_, h⟩
                  obtain ⟨u1, hc1⟩ : ∃ u, wr.cell? ⟨gl, j * 2 + 1, none⟩ = some u := by
                    have h := hown.cellAt (j * 2 + 1) (by omega)
                    rw [List.getElem?_eq_getElem (by omega)] at h
                    exact ⟨_, h⟩
                  have hf0 := hown.frozenAt (j * 2)
                  have hf1 := hown.frozenAt (j * 2 + 1)
                  have hst := ((hown.stored (j * 2) (.int .u32 (tgm nl))).1.stored (j * 2 + 1) (.slice none 0 0)).1
                  have HST := hid1 hst
                  have HQ := hid1 hq
                  have HBP := hid1 hbp
                  have HLEN := hid1 hlen
                  clear hown hst hq hbp hlen hgm
                  go_wp2_with fail
                  refine ⟨⟨j + 1, _, by omega, by go_num, HST.out, fun p hp => ?_, (HBP.out.set (.inl rfl) _).set (.inl rfl) _⟩, by simp [intOf]; omega⟩
                  by_cases e1 : p = j * 2 + 1
                  · subst e1; simp [HLEN.out, mkc, show j * 2 + 1 < M * 2 by omega]
                  · rw [List.getElem?_set_ne (by omega)]
                    by_cases e2 : p = j * 2
                    · subst e2; simp [HLEN.out, mkc, show j * 2 < M * 2 by omega]
                    · rw [List.getElem?_set_ne (by omega)]; exact HQ.out p (by omega)
                · have e9 : M = j := by omega
                  subst e9
                  have eys := mkc_list hown.1 hq
                  subst eys
                  have hbk6 := (HBK.out.bp (T := fun _ => False) (BP.bel HY.out) fun _ _ h => h).bp hbp fun b h e => (HGL.out b e).2 h
                  have HBK6 := hid1 hbk6
                  have HOW6 := hid1 hown
                  have HBP6 := hid1 hbp
                  have m0' := hbp.cell (b := mb) (fun e => by have := (HGL.out mb e).1; omega) m0
                  have m1' := hbp.cell (b := mb) (fun e => by have := (HGL.out mb e).1; omega) m1
                  clear hown hbp hq hbk6 HBK
                  have x1 : wr.cell? ⟨bb, 1, none⟩ = some (.slice xo nl xc) := HBK6.out.h.cell (by omega)
                  have hbbX := HBK6.out.h.lt
                  have hbbN : bb ≠ wr.heap.size := by omega
                  have hmbX := lt_of_cell m0'
                  have hmbN : mb ≠ wr.heap.size := by omega
                  obtain ⟨i0, hi, hz0, hz1, hz2⟩ := info_parts info_chunk
                  obtain ⟨i1, hi1, hz10, hz11, hz12⟩ := info_parts info_cks
                  have OW := hid1 (fun V (hV : Below wr.heap.size wr V) => own_keep (S := fun _ => False) (BP.bel hV) HBK6.out.l.own fun _ _ h => h)
                  have hBB' : ∀ b, Bj B bo bn gs W.heap.size cn b → B b ∨ Ab bo bn co cn cc gs b ∨ w.heap.size ≤ b := fun b h => by
                    rcases h with h | h | ⟨j, _, h⟩ | h
                    · exact .inl h
                    · exact .inr (.inl (.inl h))
                    · exact .inr (.inl (.inr (.inr (List.mem_of_getElem? h))))
                    · exact .inr (.inr (by have := HW.out.size; omega))
                  have hco' : ∀ g, (Value.slice co M cc).ownBlock = some g → ¬ Bj B bo bn gs W.heap.size cn g ∧ (B g ∨ Ab bo bn co cn cc gs g ∨ w.heap.size ≤ g) := fun g e => by
                    refine ⟨(HGL.out g e).2, .inr (.inl (.inr (.inl ?_)))⟩
                    cases co with
                    | none => simp [Value.ownBlock] at e
                    | some p => exact e
                  have hz6 := HBP6.out.size
                  have hzY := HY.out.size
                  have fin : Hid (∀ (V y3 : World) (g2 c2 : Nat) (o3 : Option Addr) (n3 c3 : Nat), BP (fun b => (Value.slice co M cc).ownBlock = some b) wr V → V.ownsRow 0 37 2 (.slice co M cc) M (rowL (mkc (tgm nl)) (M * 2)) → V.ownsRow 0 37 2 (.slice (some ⟨g2, 0, none⟩) (M + 1) c2) (M + 1) (rowL (mkc (tgm nl)) ((M + 1) * 2)) → ((Value.slice co M cc).ownBlock = some g2 ∨ wr.heap.size ≤ g2) → BP (fun b => (Value.slice xo nl xc).ownBlock = some b) V y3 → y3.ownsRow 0 28 1 (.slice o3 n3 c3) (nl + 2) (rowL (sv lo m d) nl ++ [.slice co M cc, .slice (some ⟨g2, 0, none⟩) (M + 1) c2]) → (∀ g, (Value.slice o3 n3 c3).ownBlock = some g → (Value.slice xo nl xc).ownBlock = some g ∨ wr.heap.size ≤ g) →
                      (∃ ny' nl', ny' ≤ ny + 2050 ∧ nl' ≤ nl + 2 ∧ ny' % 2 = 0 ∧ nl' % 2 = 0 ∧ Bi (y3.setCell ⟨bb, 1, none⟩ (.slice o3 n3 c3)) (fun b => B b ∨ Ab bo bn co cn cc gs b ∨ w.heap.size ≤ b) bb ny' nl') ∧ BP (fun b => B b ∨ Ab bo bn co cn cc gs b) w (y3.setCell ⟨bb, 1, none⟩ (.slice o3 n3 c3))) := hid1 fun V y3 g2 c2 o3 n3 c3 hV hl h2 hg2 hy h3 hg3 => by
                    have hw0 := HW.out.size
                    refine ⟨⟨ny + 2 + 2 * cn, nl + 2, by omega, by omega, by omega, by omega, HBK6.out.endL hel hBB' hV hco' hl h2 ?_ hy h3 fun g e => ?_⟩, ?_⟩
                    · rcases hg2 with h | h
                      · exact (hco' g2 h).2
                      · exact .inr (.inr (by omega))
                    · rcases hg3 g e with h | h
                      · exact hBB' g (HBK6.out.s.2.2.1 g h)
                      · exact .inr (.inr (by omega))
                    · have b1 : BP (fun b => B b ∨ Ab bo bn co cn cc gs b) w wr := (((BP.bel HW.out).trans HBP5.out fun b hb h => ?_).step HY.out).trans HBP6.out fun b hb h => ?_
                      · refine ((b1.trans hV fun b hb h => ?_).trans hy fun b hb h => ?_).set (.inl (.inl hsB)) _
                        · rcases (hco' b h).2 with h1 | h1 | h1
                          · exact .inl h1
                          · exact .inr h1
                          · omega
                        · rcases hBB' b (HBK6.out.s.2.2.1 b h) with h1 | h1 | h1
                          · exact .inl h1
                          · exact .inr h1
                          · omega
                      · rcases h with h | h | ⟨j, _, h⟩
                        · exact .inl h
                        · exact .inr (.inl h)
                        · exact .inr (.inr (.inr (List.mem_of_getElem? h)))
                      · rcases (hco' b h).2 with h1 | h1 | h1
                        · exact .inl h1
                        · exact .inr h1
                        · omega
                  by_cases hfull : M = cc
                  · obtain ⟨O1, _⟩ := own_olds2 HOW6.out
                    have ON := hid1 O1
                    have OL := hid1 (fun V (hV : Below wr.heap.size wr V) => (own_olds2 (own_keep (S := fun _ => False) (BP.bel hV) HOW6.out fun _ _ h => h)).2)
                    have hfl : cc < M + 1 := by omega
                    clear O1 hBB' hco' hfull
                    go_upto_region 20 with fail
                    go_region_law (first
                      | (refine step_append_grows rfl (.tmp 120) (.tmp 122) 28 rfl 37 i0 (.agg #[.int .u32 0, .slice none 0 0]) 2 32 und_chunks hi hz0 hz1 hz2 rfl (by decide) co M cc (rowL (mkc (tgm nl)) (M * 2)) (by go_simp) ON.out (by simp [rowL]) (OL.out _ (by repeat (first | (with_reducible exact Below.refl _ _) | (with_reducible assumption) | (with_reducible refine Below.drew ?_) | (with_reducible refine bl_alloc ?_ _) | (with_reducible refine bl_drewN ?_ _)))) ⟨wr.heap.size, 0, none⟩ 1 1 [.int .u32 (tgm nl), .slice none 0 0] (by go_simp) rfl (cell_chunk_new wr _ _ _) (fun u hu => by simp at hu; rcases hu with rfl | rfl <;> rfl) hfl (by unfold maxLen; omega) (by omega) ?_; intro v1 y1 hown1 hgrow1; have by1 : Below wr.heap.size wr y1 := (by refine bl_step ?_ (grown_bel hgrow1); repeat (first | (with_reducible exact Below.refl _ _) | (with_reducible assumption) | (with_reducible refine Below.drew ?_) | (with_reducible refine bl_alloc ?_ _) | (with_reducible refine bl_drewN ?_ _))); obtain ⟨g2, c2, rfl⟩ := own_slice hown1; have hg2 : wr.heap.size ≤ g2 := (by have := (hown1.lt g2 rfl).1; simp at this; omega); have p1 := keepc by1 x1; have pbb : bb < y1.heap.size := Nat.lt_of_lt_of_le hbbX by1.size; have pbn : bb ≠ y1.heap.size := (by omega); have HO1 := hid1 hown1; clear hown1 hgrow1)
                      | (refine step_append_own2 rfl (.tmp 118) (.tmp 124) 56 rfl 0 28 i1 (.slice none 0 0) 1 24 und_ckss hi1 hz10 hz11 hz12 rfl (by decide) (.slice xo nl xc) nl (rowL (sv lo m d) nl) (by go_simp) (OW.out _ (by repeat (first | (with_reducible exact Below.refl _ _) | (with_reducible assumption) | (with_reducible refine Below.drew ?_) | (with_reducible refine bl_alloc ?_ _) | (with_reducible refine bl_drewN ?_ _)))) ⟨y1.heap.size, 0, none⟩ 2 2 [.slice co M cc, .slice (some ⟨g2, 0, none⟩) (M + 1) c2] (by go_simp) rfl (cell_chunk_new y1 _ _ _) (fun u hu => by simp at hu; rcases hu with rfl | rfl <;> rfl) (by unfold maxLen; omega) (by omega) (Nat.zero_le _) ?_; intro v3 y3 hown3 hgrow3 hat3; have hy3 : BP (fun b => (Value.slice xo nl xc).ownBlock = some b) y1 y3 := (BP.bel (bl_alloc (Below.refl _ _) _)).trans (BP.grown hgrow3) fun _ _ e => e.symm; obtain ⟨o3, n3, c3, rfl⟩ := own_is hown3; have q3 := hy3.row (fun e => (HBK6.out.bp (T := fun _ => False) (BP.bel by1) fun _ _ h => h).l.ne (keepr by1 HBK6.out.h) (by decide) e) (keepr by1 HBK6.out.h); have q31 := q3.cell (i := 1) (by omega); have q3f := q3.frozen 1; have HO3 := hid1 hown3; have HAT := hid1 hat3; have HY3 := hid1 hy3; clear hown3 hgrow3 hat3 hy3 q3))
                    all_goals
                      refine bodyPost_end (v := .tuple #[]) (by simp [results, go_sem]) rfl ⟨rfl, fin.out y1 y3 g2 c2 o3 n3 c3 (BP.bel by1) (own_keep (S := fun _ => False) (BP.bel by1) HOW6.out fun _ _ h => h) (by have h := HO1.out; rw [rowL_two] at h; exact own_mono h (Nat.zero_le _)) (.inr hg2) HY3.out HO3.out fun g e => ?_⟩
                      rcases HAT.out with h | h
                      · exact .inl (h.symm.trans e)
                      · rw [e] at h
                        injection h with h
                        exact .inr (by have := by1.size; simp at h; omega)
                  · obtain ⟨gl, F, ego, RR, hFF⟩ : ∃ gl F, co = some ⟨gl, 0, none⟩ ∧ wr.rowIs gl 37 (cc * 2) F ∧ ∀ p, p < M * 2 → F p = mkc (tgm nl) p := own_grow HOW6.out (by omega)
                    subst ego
                    have hcm : cc ≤ maxLen := own_cap HOW6.out
                    have hroom : M + 1 ≤ cc := by omega
                    have SP := hid1 (room_spare (t := tgm nl) RR hroom)
                    have RM := hid1 (room_laid RR hFF hroom hcm)
                    have hnB : ∀ b, Bj B bo bn gs W.heap.size cn b → ¬ b = gl := fun b h e => (HGL.out gl rfl).2 (e ▸ h)
                    have HNB := hid1 hnB
                    clear hBB' hco' hfull RR hFF hnB
                    go_upto_region 20 with fail
                    go_region_law (first
                      | (refine step_append_room rfl (.tmp 120) (.tmp 122) 28 rfl 37 i0 2 und_chunks hi hz1 gl 0 M cc (by go_simp) ⟨wr.heap.size, 0, none⟩ 1 1 [.int .u32 (tgm nl), .slice none 0 0] (by go_simp) rfl (cell_chunk_new wr _ _ _) (fun u hu => by simp at hu; rcases hu with rfl | rfl <;> rfl) hroom (SP.out _ (by repeat (first | (with_reducible exact Below.refl _ _) | (with_reducible assumption) | (with_reducible refine Below.drew ?_) | (with_reducible refine bl_alloc ?_ _) | (with_reducible refine bl_drewN ?_ _)))) ?_; refine gen_any (fun y1 => BP (· = gl) wr y1 ∧ y1.ownsRow 0 37 2 (.slice (some ⟨gl, 0, none⟩) M cc) M (rowL (mkc (tgm nl)) (M * 2)) ∧ y1.ownsRow 0 37 2 (.slice (some ⟨gl, 0, none⟩) (M + 1) cc) (M + 1) (rowL (mkc (tgm nl)) ((M + 1) * 2))) (RM.out _ (by repeat (first | (with_reducible exact Below.refl _ _) | (with_reducible assumption) | (with_reducible refine Below.drew ?_) | (with_reducible refine bl_alloc ?_ _) | (with_reducible refine bl_drewN ?_ _)))) ?_; rintro y1 ⟨bpy, ol1, ol2⟩; have hk1 := HBK6.out.bp bpy (fun b h e => HNB.out b h e); have p1 : y1.cell? ⟨bb, 1, none⟩ = some (.slice xo nl xc) := hk1.h.cell (by omega); have pbb := hk1.h.lt; have pbn : bb ≠ y1.heap.size := (by omega); have HK1 := hid1 hk1; have HO1 := hid1 ol1; have HO2 := hid1 ol2; have HBY := hid1 bpy; clear hk1 ol1 ol2 bpy)
                      | (refine step_append_own2 rfl (.tmp 118) (.tmp 124) 56 rfl 0 28 i1 (.slice none 0 0) 1 24 und_ckss hi1 hz10 hz11 hz12 rfl (by decide) (.slice xo nl xc) nl (rowL (sv lo m d) nl) (by go_simp) (HK1.out.l.own.alloc _) ⟨y1.heap.size, 0, none⟩ 2 2 [.slice (some ⟨gl, 0, none⟩) M cc, .slice (some ⟨gl, 0, none⟩) (M + 1) cc] (by go_simp) rfl (cell_chunk_new y1 _ _ _) (fun u hu => by simp at hu; rcases hu with rfl | rfl <;> rfl) (by unfold maxLen; omega) (by omega) (Nat.zero_le _) ?_; intro v3 y3 hown3 hgrow3 hat3; have hy3 : BP (fun b => (Value.slice xo nl xc).ownBlock = some b) y1 y3 := (BP.bel (bl_alloc (Below.refl _ _) _)).trans (BP.grown hgrow3) fun _ _ e => e.symm; obtain ⟨o3, n3, c3, rfl⟩ := own_is hown3; have q3 := hy3.row (fun e => HK1.out.l.ne HK1.out.h (by decide) e) HK1.out.h; have q31 := q3.cell (i := 1) (by omega); have q3f := q3.frozen 1; have HO3 := hid1 hown3; have HAT := hid1 hat3; have HY3 := hid1 hy3; clear hown3 hgrow3 hat3 hy3 q3))
                    all_goals
                      refine bodyPost_end (v := .tuple #[]) (by simp [results, go_sem]) rfl ⟨rfl, fin.out y1 y3 gl cc o3 n3 c3 (HBY.out.mono fun b _ e => by rw [e]; rfl) HO1.out HO2.out (.inl rfl) HY3.out HO3.out fun g e => ?_⟩
                      rcases HAT.out with h | h
                      · exact .inl (h.symm.trans e)
                      · rw [e] at h
                        injection h with h
                        exact .inr (by have := HBY.out.size; simp at h; omega)
end Go.Proofs.YtinhhgiokaamhaaDoor
