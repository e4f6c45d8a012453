/- CHUNKFRESH: the Book's full. -/
import Derived.Test.YtinhhgiokaamhaaDoorCX1
namespace Go.Proofs.YtinhhgiokaamhaaDoor
open Go.RowKit

theorem app_slx {ops : Array Oper} {rest : List Oper} {o : Oper} {a : Act} {Q : Exit → Act → World → Prop} {w : World} (hgd : o.guard = none) (s x : Operand)
    (ho : o.op = .call { callee := .builtin .append, args := #[s, x], argTypes := #[22, 22] }) (w0 : World) (v : Value) (n : Nat) (xs : List Value) (hs : a.eval s = v) (hown : w.ownsRow 0 23 1 v n xs) (hw : Below w0.heap.size w0 w)
    (ad : Addr) (m cl : Nat) (news : List Value) (hx : a.eval x = .slice (some ad) m cl) (hl : news.length = m * 1) (hr : ∀ j u, news[j]? = some u → w.cell? (ad.add j) = some u) (h1 : ∀ u ∈ news, u.oneCell' = true) (hb : n + m ≤ 5000000000000)
    (h : ∀ v' w', w'.ownsRow 0 23 1 v' (n + m) (xs ++ news) → BP (fun b => v.ownBlock = some b) w0 w' → (∀ g, v'.ownBlock = some g → v.ownBlock = some g ∨ w0.heap.size ≤ g) → wpList Tryd.prog ops Q rest (a.put o.dst v') w') : wpList Tryd.prog ops Q (o :: rest) a w := by
  obtain ⟨i0, hi, hz0, hz1, hz2⟩ := info_parts info_u8s
  refine wpList_append_own_at w hgd s x _ ho 0 23 i0 (.slice none 0 0) 1 24 und_u8ss hi hz0 hz1 hz2 rfl (by decide) v n xs hs hown ad m cl news hx hl hr h1 (by unfold maxLen; omega) (by omega) (Nat.zero_le _) ?_
  intro v' w' h1 h2 _ h4
  have hsz := hw.size
  refine h v' w' h1 (((BP.refl _ w0).step hw).trans (BP.grown h2) fun x _ e => e.symm) fun g e => ?_
  rcases h4 with e2 | e2
  · rw [← e2]; exact .inl e
  · rw [e] at e2
    injection e2 with e2
    exact .inr (by omega)
theorem wg_of {w : World} {T n : Nat} {v : Value} {xs : List Value} {el : Nat → Value} (h : w.ownsRow 0 T 1 v n xs) (hx : ∀ j, j < n → xs[j]? = some (el j)) : Wg w T v n el := by
  rcases h.2 with ⟨e, h0⟩ | ⟨g, cap, cur, hv, hb, hg, h4, h5, h6, h7⟩
  · exact .inl ⟨e, h0⟩
  · refine .inr ⟨g, cap, fun k => cur[k]?.getD undef, hv, h4, h5, ⟨cur, hg, by omega, fun i hi => ?_⟩, fun j hj => ?_⟩
    · simp [Array.getElem?_eq_getElem (show i < cur.size by omega)]
    · have := hx j hj
      rw [← h7, Nat.mul_one, List.getElem?_take_of_lt hj, Array.getElem?_toList] at this
      simp [this]
def upd2 {α : Type} (f : Nat → α) (N : Nat) (a b : α) : Nat → α := fun j => if j = N then a else if j = N + 1 then b else f j
theorem upd2_a {α : Type} (f : Nat → α) (N : Nat) (a b : α) : upd2 f N a b N = a := by simp [upd2]
theorem upd2_b {α : Type} (f : Nat → α) (N : Nat) (a b : α) : upd2 f N a b (N + 1) = b := by simp [upd2]
theorem upd2_o {α : Type} (f : Nat → α) {N j : Nat} (a b : α) (h : j < N) : upd2 f N a b j = f j := by
  unfold upd2
  rw [if_neg (by omega), if_neg (by omega)]
theorem two_at {el : Nat → Value} {N : Nat} {a b : Value} {j : Nat} (hj : j < N + 2) : (rowL el N ++ [a, b])[j]? = some (upd2 el N a b j) := by
  by_cases h : j < N
  · rw [List.getElem?_append_left (by simp [rowL]; omega), upd2_o _ _ _ h]
    simp [rowL, h]
  · rw [List.getElem?_append_right (by simp [rowL]; omega)]
    rcases (show j = N ∨ j = N + 1 by omega) with rfl | rfl
    · rw [upd2_a]; simp [rowL]
    · rw [upd2_b]; simp [rowL]
theorem sv_upd2 {ao : Nat → Option Addr} {n c : Nat → Nat} {N : Nat} {x y : Option Addr} {p q r s : Nat} (j : Nat) : upd2 (sv ao n c) N (.slice x p q) (.slice y r s) j = sv (upd2 ao N x y) (upd2 n N p r) (upd2 c N q s) j := by
  unfold sv upd2
  by_cases h1 : j = N
  · simp [h1]
  · by_cases h2 : j = N + 1
    · simp [h2]
    · simp [h1, h2]
section
variable {w w1 w2 : World} {B : Nat → Prop} {bb : Nat} {vy vl vy' : Value} {mu : Int} {ny nl : Nat} {ao : Nat → Option Addr} {n c : Nat → Nat} {lo : Nat → Option Addr} {m d : Nat → Nat}
/-- The list of lists of bytes is another one. -/
theorem Bk.onY {ny' : Nat} {ao' : Nat → Option Addr} {n' c' : Nat → Nat} (h : Bk w B bb vy vl mu ny nl ao n c lo m d) (hu : BP (fun b => vy.ownBlock = some b) w w1) (hy : Wg w1 23 vy' ny' (sv ao' n' c')) (hg : ∀ g, vy'.ownBlock = some g → B g)
    (he : ∀ i, i < ny' → w1.ownsRow 0 5 1 (.slice (ao' i) (n' i) (c' i)) (n' i) (u8s (nms i (n' i)))) (hv : ∀ i, i < ny' → i % 2 = 0 → c' i = n' i) (hs : ∀ i, i < ny' → n' i ≤ 16777216 + i % 2) (hb : ∀ i, i < ny' → ∀ g, (Value.slice (ao' i) (n' i) (c' i)).ownBlock = some g → B g) :
    Bk (w1.setCell ⟨bb, 0, none⟩ vy') B bb vy' vl mu ny' nl ao' n' c' lo m d := by
  have h1 : w1.rowIs bb 58 3 (bkf vy vl mu) := hu.row (fun e => h.y.ne h.h (by decide) e) h.h
  have hl : Wg w1 28 vl nl (sv lo m d) := h.l.bp hu fun g e e2 => by
    obtain ⟨_, _, r⟩ := h.l.row e
    exact h.y.ne r (by decide) e2
  have hel : ∀ i, i < nl → w1.ownsRow 0 37 2 (.slice (lo i) (m i) (d i)) (m i) (rowL (mkc (tgm i)) (m i * 2)) := fun i hi => own_keep hu (h.el i hi) fun g e e2 => by
    obtain ⟨_, _, r⟩ := h.y.row e2
    exact own_row_ne (h.el i hi) r (by decide) e
  have hu2 : BP (· = bb) w1 (w1.setCell ⟨bb, 0, none⟩ vy') := BP.self _ _ _ _
  refine ⟨(h1.set 0 _).congr fun j hj => ?_, hy.bp hu2 fun g e e2 => hy.ne h1 (by decide) (e.trans (by rw [e2])), hl.bp hu2 fun g e e2 => hl.ne h1 (by decide) (e.trans (by rw [e2])), fun i hi => own_keep hu2 (he i hi) fun g e e2 => own_row_ne (he i hi) h1 (by decide) (e.trans (by rw [e2])), fun i hi => own_keep hu2 (hel i hi) fun g e e2 => own_row_ne (hel i hi) h1 (by decide) (e.trans (by rw [e2])), hv, hs, h.s.1, hg, h.s.2.2.1, hb, h.s.2.2.2.2⟩
  rcases (show j = 0 ∨ j = 1 ∨ j = 2 by omega) with rfl | rfl | rfl <;> rfl
end
theorem u8_marks {ys : List Value} {i k : Nat} (hl : ys.length = k) (h : ∀ j, j < k → ys[j]? = some (.int .u8 ((nmr i j : Nat) : Int))) : ys = u8s (nms i k) := by
  refine List.ext_getElem? fun j => ?_
  by_cases hj : j < k
  · rw [h j hj]
    simp [u8s, nms, hj]
  · rw [List.getElem?_eq_none (by omega), List.getElem?_eq_none (by simp [u8s, nms]; omega)]
set_option maxHeartbeats 1600000 in
set_option maxRecDepth 100000 in
theorem bfull_any (B : Nat → Prop) (bb ny nl : Nat) (la : Option Addr) (k : Nat) (xs : List Value) (w : World) (hb : Bi w B bb ny nl) (hny : ny ≤ 4398046511104) (hev : ny % 2 = 0) (hk : k ≤ 16777216) (ho : w.ownsRow 0 5 1 (.slice la k k) k xs) (hB : ∀ g, (Value.slice la k k).ownBlock = some g → ¬ B g) :
    Calls Tryd.prog 40 #[.pointer (some ⟨bb, 0, none⟩), .slice la k k] w fun e w' => e = .returned (.tuple #[]) ∧ Bi w' (fun b => B b ∨ (Value.slice la k k).ownBlock = some b ∨ w.heap.size ≤ b) bb (ny + 2) nl ∧ BP (fun b => B b ∨ (Value.slice la k k).ownBlock = some b) w w' := by
  obtain ⟨vy, vl, mu, ao, n, c, lo, m, d, hbk⟩ := hb
  obtain ⟨yo, yc, evy⟩ := hbk.y.val
  subst evy
  have HB := hid1 hbk
  have HO := hid1 ho
  have HBB := hid1 hB
  have c0 : w.cell? ⟨bb, 0, none⟩ = some (.slice yo ny yc) := hbk.h.cell (by omega)
  have iy0 : (0 : Int) ≤ (ny : Int) := by omega
  have ik0 : (0 : Int) ≤ (k : Int) := by omega
  have ik1 : (k : Int) ≤ 16777216 := by omega
  clear hbk ho hB
  go_enter Tryd.func40, Tryd.ntmps40
  go_wp2_with fail
  go_loopw [5] (fun i wr => ∃ j ys, j ≤ k ∧ i = .int .i64 (j : Nat) ∧ wr.ownsRow 0 5 1 (.slice la k k) k ys ∧ (∀ q, q < j → ys[q]? = some (.int .u8 ((nmr ny q : Nat) : Int))) ∧ BP (fun b => (Value.slice la k k).ownBlock = some b) w wr) (fun i _ => k - (intOf i).toNat)
  case atStart => exact ⟨0, xs, Nat.zero_le _, rfl, HO.out, fun q hq => absurd hq (by omega), BP.refl _ _⟩
  case round =>
    obtain ⟨j, ys, hj, rfl, hown, hq, hbp⟩ := hrel
    have ij0 : (0 : Int) ≤ (j : Int) := by omega
    by_cases hlt : j < k
    · have ij : (j : Int) < (k : Int) := by omega
      obtain ⟨g, cap, e⟩ : ∃ g cap, Value.slice la k k = .slice (some ⟨g, 0, none⟩) k cap := by
        rcases hown.2 with ⟨_, h0⟩ | ⟨g, cap, cur, hv, _⟩
        · omega
        · exact ⟨g, cap, hv⟩
      injection e with e1 e2 e3
      subst e1
      clear e2 e3
      have hlen : ys.length = k := by have := hown.1; omega
      obtain ⟨u0, hcj⟩ : ∃ u, wr.cell? ⟨g, j, none⟩ = some u := by
        have h := hown.cellAt j (by omega)
        rw [List.getElem?_eq_getElem (by omega)] at h
        exact ⟨_, h⟩
      have hfj := hown.frozenAt j
      have hst := (hown.stored j (.int .u8 ((nmr ny j : Nat) : Int))).1
      have HST := hid1 hst
      have HQ := hid1 hq
      have HBP := hid1 hbp
      have HLEN := hid1 hlen
      clear hown hst hq hbp hlen
      go_wp2_with fail
      refine (nmr_any ny j (by omega) wr).mono ?_
      rintro e w1 ⟨rfl, rfl⟩
      go_wp2_with fail
      refine ⟨⟨j + 1, _, by omega, by go_num, HST.out, fun q hq => ?_, HBP.out.set (.inl rfl) _⟩, by simp [intOf]; omega⟩
      by_cases e : q = j
      · subst e; simp [HLEN.out, hlt]
      · rw [List.getElem?_set_ne (by omega)]; exact HQ.out q (by omega)
    · obtain rfl : j = k := by omega
      have ey : ys = u8s (nms ny j) := u8_marks (by have := hown.1; omega) hq
      have hb1 := HB.out.bp hbp fun b h e => HBB.out b e h
      have HB1 := hid1 hb1
      have HBP := hid1 hbp
      have HOW : Hid (wr.ownsRow 0 5 1 (.slice la j j) j (u8s (nms ny j))) := hid1 (ey ▸ hown)
      have c0' : wr.cell? ⟨bb, 0, none⟩ = some (.slice yo ny yc) := hb1.h.cell (by omega)
      have f0' := hb1.h.frozen 0
      have HYO := hid1 hb1.y.own
      clear hown hq hbp ey hb1
      go_wp2_with ((at_builtin; refine app_slx rfl _ _ rfl wr (.slice yo ny yc) ny (rowL (sv ao n c) ny) (by go_simp) (HYO.out.alloc _) (bl_alloc (Below.refl _ _) _) ⟨wr.heap.size, 0, none⟩ 2 2 [.slice la j j, .slice none 0 0] (by go_simp) rfl (cell_chunk_new _ _ _ _) (fun u hu => by simp at hu; rcases hu with rfl | rfl <;> rfl) (by omega) ?_; intro v2 w2 hown2 hbp2 hg2; have HO2 := hid1 hown2; have HB2 := hid1 hbp2; have HG2 := hid1 hg2; have r2 := hbp2.row (fun e => HB1.out.y.ne HB1.out.h (by decide) e) HB1.out.h; have c2 := r2.cell (i := 0) (by omega); have f2 := r2.frozen 0; obtain ⟨o2, n2, cc2, ev2⟩ := own_is hown2; subst ev2; clear hown2 hbp2 hg2 r2))
      refine bodyPost_end (v := .tuple #[]) (by simp [results, go_sem]) rfl ?_
      have hYg := HG2.out
      have hsz := HB2.out.size
      have hsz1 := HBP.out.size
      have hw : Wg w2 23 (.slice o2 n2 cc2) (ny + 2) (sv (upd2 ao ny la none) (upd2 n ny j 0) (upd2 c ny j 0)) := (wg_of HO2.out fun q hq => two_at hq).congr fun q _ => sv_upd2 q
      have hb3 := (HB1.out.sub (T := fun b => B b ∨ (Value.slice la j j).ownBlock = some b ∨ w.heap.size ≤ b) fun b h _ => .inl h).onY HB2.out hw (fun g e => ?_) (fun i hi => ?_) (fun i hi h2 => ?_) (fun i hi => ?_) (fun i hi g e => ?_)
      · exact ⟨rfl, ⟨_, _, _, _, _, _, _, _, _, hb3⟩, ((((BP.refl _ w).trans HBP.out fun b _ h => .inr h).trans HB2.out fun b _ h => .inl (HB1.out.s.2.1 b h))).set (.inl (.inl HB1.out.s.1)) _⟩
      · rcases hYg g e with e2 | e2
        · exact .inl (HB1.out.s.2.1 g e2)
        · exact .inr (.inr (by omega))
      · by_cases h1 : i < ny
        · rw [upd2_o _ _ _ h1, upd2_o _ _ _ h1, upd2_o _ _ _ h1]
          exact own_keep HB2.out (HB1.out.ey i h1) fun g e e2 => by
            obtain ⟨_, _, r⟩ := HB1.out.y.row e2
            exact own_row_ne (HB1.out.ey i h1) r (by decide) e
        · rcases (show i = ny ∨ i = ny + 1 by omega) with rfl | rfl
          · rw [upd2_a, upd2_a, upd2_a]
            exact own_keep HB2.out HOW.out fun g e e2 => by
              obtain ⟨_, _, r⟩ := HB1.out.y.row e2
              exact own_row_ne HOW.out r (by decide) e
          · rw [upd2_b, upd2_b, upd2_b]
            exact World.ownsRow_nil _ _ _ _
      · by_cases h1 : i < ny
        · rw [upd2_o _ _ _ h1, upd2_o _ _ _ h1]; exact HB1.out.ev i h1 h2
        · rcases (show i = ny ∨ i = ny + 1 by omega) with rfl | rfl
          · rw [upd2_a, upd2_a]
          · rw [upd2_b, upd2_b]
      · by_cases h1 : i < ny
        · rw [upd2_o _ _ _ h1]; exact HB1.out.sm i h1
        · rcases (show i = ny ∨ i = ny + 1 by omega) with rfl | rfl
          · rw [upd2_a]; omega
          · rw [upd2_b]; omega
      · by_cases h1 : i < ny
        · rw [upd2_o _ _ _ h1, upd2_o _ _ _ h1, upd2_o _ _ _ h1] at e
          exact .inl (HB1.out.s.2.2.2.1 i h1 g e)
        · rcases (show i = ny ∨ i = ny + 1 by omega) with rfl | rfl
          · rw [upd2_a, upd2_a, upd2_a] at e
            exact .inr (.inl e)
          · rw [upd2_b, upd2_b, upd2_b] at e
            simp [Value.ownBlock] at e
end Go.Proofs.YtinhhgiokaamhaaDoor
