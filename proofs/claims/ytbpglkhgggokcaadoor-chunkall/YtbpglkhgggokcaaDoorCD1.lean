/- CHUNKS: few. -/
import Derived.Test.YtbpglkhgggokcaaDoorCB2
import Derived.Deep.RegionLawGrows
namespace Go.Proofs.YtbpglkhgggokcaaDoor
open Go.RowKit

/-- A copy of bytes, as the append's own run. -/
theorem run_copy8 (w : World) (ty : TypeId) (ao : Option Addr) (m c : Nat) (b : List Nat) (hm : b.length = m) (hb : By w ao b) (hsz : m ≤ 1099511627776) :
    ∃ v' w', (Builtin.append_ #[25, 25] ty #[.slice none 0 0, .slice ao m c]).run Tryd.prog w = .ok v' w' ∧ w'.ownsRow w.heap.size 5 1 v' m (u8s b) ∧ w.grownBy w' none := by
  obtain ⟨i0, hi, hz0, hz1, hz2⟩ := info_parts info_u8
  subst hm
  cases ao with
  | none =>
    have hb0 : b = [] := by
      rcases b with _ | ⟨y, t⟩
      · rfl
      · obtain ⟨_, _, e, _⟩ := hb 0 y rfl
        exact absurd e (by simp)
    subst hb0
    exact ⟨_, w, run_append_none w w.heap.size _ _ _ i0 1 und_u8s hi _ 0 [] (World.ownsRow_nil _ _ _ _) c, World.ownsRow_nil _ _ _ _, ⟨rfl, rfl, rfl, Nat.le_refl _, fun _ _ _ => rfl⟩⟩
  | some ad =>
    have hnews : ∀ j u, (u8s b)[j]? = some u → w.cell? (ad.add j) = some u := by
      rcases b with _ | ⟨y, t⟩
      · intro j u hj; simp [u8s] at hj
      · obtain ⟨gg, oo, e, _⟩ := hb 0 y rfl
        injection e with e
        subst e
        exact hb.news
    obtain ⟨v', w', hr, own, gr, _⟩ := run_append_own (P := Tryd.prog) w w.heap.size 25 ty 5 i0 (.int .u8 0) 1 1 und_u8s hi hz0 hz1 hz2 rfl (by decide) (.slice none 0 0) 0 [] (World.ownsRow_nil w _ _ _) ad b.length c (u8s b) (u8s_len b) hnews (u8s_one b) (by unfold maxLen; omega) (by omega) (Nat.le_refl _)
    rw [List.nil_append, Nat.zero_add] at own
    exact ⟨v', w', hr, own, gr⟩
theorem step_copy8 {ops : Array Oper} {o : Oper} {a : Act} {w : World} {K : Act → World → Prop} {Q : Exit → Act → World → Prop} {E : Prop} (hg : o.guard = none) (s x : Operand)
    (hop : o.op = Op.call { callee := Callee.builtin Builtin.append, args := #[s, x], argTypes := #[25, 25] }) (hs : a.eval s = .slice none 0 0) (ao : Option Addr) (m c : Nat) (b : List Nat) (hx : a.eval x = .slice ao m c) (hm : b.length = m) (hb : By w ao b) (hsz : m ≤ 1099511627776)
    (hK : ∀ v' w', w'.ownsRow w.heap.size 5 1 v' m (u8s b) → w.grownBy w' none → K (a.put o.dst v') w') : if Region.wanted o (yielded ops a.tmps) = true then Oper.wp Tryd.prog o a w K Q else E := by
  have hw : Region.wanted o (yielded ops a.tmps) = true := by simp [Region.wanted, hg]
  rw [if_pos hw]
  obtain ⟨v', w', hr, own, gr⟩ := run_copy8 w o.type ao m c b hm hb hsz
  unfold Oper.wp
  simp [execOp, hop, resolve, invoke, builtin, hs, hx, hr, Result.andThen]
  exact hK v' w' own gr
theorem step_append_own {P : Program} {ops : Array Oper} {o : Oper} {a : Act} {w : World} {K : Act → World → Prop} {Q : Exit → Act → World → Prop} {E : Prop}
    (hg : o.guard = none) (s x : Operand) (t : TypeId) (hop : o.op = Op.call { callee := Callee.builtin Builtin.append, args := #[s, x], argTypes := #[t, t] })
    (base : Nat) (e : TypeId) (i : TypeInfo) (z : Value) (size bytes : Nat) (ht : P.underlying t = some (.slice e)) (hi : P.info? e = some i) (hz : i.zero = some z)
    (hsize : i.size = size) (hby : i.bytes = bytes) (hzs : z.cells.size = size) (hsz : 0 < size)
    (v : Value) (n : Nat) (xs : List Value) (hs : a.eval s = v) (hown : w.ownsRow base e size v n xs)
    (ad : Addr) (m c : Nat) (news : List Value) (hx : a.eval x = .slice (some ad) m c) (hl : news.length = m * size) (hnews : ∀ j u, news[j]? = some u → w.cell? (ad.add j) = some u) (h1 : ∀ u ∈ news, u.oneCell' = true)
    (h63 : n + m ≤ maxLen) (hbytes : (n + m) * bytes ≤ 140737488355328) (hbase : base ≤ w.heap.size)
    (h : ∀ v' w', w'.ownsRow base e size v' (n + m) (xs ++ news) → w.grownBy w' v.ownBlock → K (a.put o.dst v') w') : if Region.wanted o (yielded ops a.tmps) = true then Oper.wp P o a w K Q else E := by
  have hw : Region.wanted o (yielded ops a.tmps) = true := by simp [Region.wanted, hg]
  rw [if_pos hw]
  exact wp_append_own w s x t hop base e i z size bytes ht hi hz hsize hby hzs hsz v n xs hs hown ad m c news hx hl hnews h1 h63 hbytes hbase fun v' w' h2 h3 _ => h v' w' h2 h3
theorem own_is {W : World} {b T s n : Nat} {v : Value} {xs : List Value} (h : W.ownsRow b T s v n xs) : ∃ a m c, v = .slice a m c := by
  rcases h.2 with ⟨e, _⟩ | ⟨g, c, _, e, _⟩
  · exact ⟨_, _, _, e⟩
  · exact ⟨_, _, _, e⟩
theorem grown_bel {w w' : World} (h : w.grownBy w' none) : Below w.heap.size w w' := (BP.grown h).below (fun x _ h => by cases h)
/-- The list of copies, as it grows. -/
structure Fw (W : World) (z : Nat) (v : Value) (xs : List Value) (pre : List Ck) : Prop where
  own : W.ownsRow z 44 2 v pre.length xs
  body : ∀ (j : Nat) (c : Ck), pre[j]? = some c → ∃ bv, xs[j * 2]? = some (.int .u32 (c.1 : Nat)) ∧ xs[j * 2 + 1]? = some bv ∧ W.ownsRow z 5 1 bv c.2.length (u8s c.2) ∧ c.Ok ∧ c.2.length ≤ 281474976710656
theorem Fw.nil (W : World) (z : Nat) : Fw W z (.slice none 0 0) [] [] := ⟨World.ownsRow_nil _ _ _ _, fun j c h => by simp at h⟩
theorem Fw.bp {S : Nat → Prop} {W X : World} {z : Nat} {v : Value} {xs : List Value} {pre : List Ck} (h : Fw W z v xs pre) (hb : BP S W X) (hs : ∀ b, z ≤ b → b < W.heap.size → ¬ S b) : Fw X z v xs pre :=
  ⟨own_keep hb h.own fun b hb2 => hs b (h.own.lt b hb2).1 (h.own.lt b hb2).2, fun j c hj => by
    obtain ⟨bv, h1, h2, h3, h4⟩ := h.body j c hj
    exact ⟨bv, h1, h2, own_keep hb h3 fun b hb2 => hs b (h3.lt b hb2).1 (h3.lt b hb2).2, h4⟩⟩
theorem Fw.keep {W X : World} {z : Nat} {v : Value} {xs : List Value} {pre : List Ck} (h : Fw W z v xs pre) (hb : Below W.heap.size W X) : Fw X z v xs pre := h.bp (S := fun _ => False) (BP.bel hb) (fun _ _ _ h => h)
theorem Fw.push {W X : World} {z : Nat} {v v' bv : Value} {xs : List Value} {pre : List Ck} {c : Ck} (h : Fw W z v xs pre) (hb : W.ownsRow z 5 1 bv c.2.length (u8s c.2)) (hc : c.Ok) (hc2 : c.2.length ≤ 281474976710656)
    (ho : X.ownsRow z 44 2 v' (pre.length + 1) (xs ++ [.int .u32 (c.1 : Nat), bv])) (hx : BP (fun b => v.ownBlock = some b) W X) : Fw X z v' (xs ++ [.int .u32 (c.1 : Nat), bv]) (pre ++ [c]) := by
  have hl : xs.length = pre.length * 2 := h.own.1
  refine ⟨by rw [List.length_append]; exact ho, fun j d hd => ?_⟩
  rw [List.getElem?_append] at hd
  by_cases hj : j < pre.length
  · rw [if_pos hj] at hd
    obtain ⟨b, h1, h2, h3, h4⟩ := h.body j d hd
    refine ⟨b, ?_, ?_, own_keep hx h3 fun q hq hv => own_ne h3 h.own (by decide) q hq hv, h4⟩
    · rw [List.getElem?_append, if_pos (by omega)]; exact h1
    · rw [List.getElem?_append, if_pos (by omega)]; exact h2
  · rw [if_neg hj] at hd
    have hz : j - pre.length = 0 := by
      refine Classical.byContradiction fun hn => ?_
      rw [List.getElem?_eq_none (by simp; omega)] at hd
      exact absurd hd (by simp)
    rw [hz] at hd
    simp at hd
    subst hd
    have hjp : j = pre.length := by omega
    refine ⟨bv, ?_, ?_, own_keep hx hb fun q hq hv => own_ne hb h.own (by decide) q hq hv, hc, hc2⟩
    · rw [List.getElem?_append, if_neg (by omega), show j * 2 - xs.length = 0 by omega]; rfl
    · rw [List.getElem?_append, if_neg (by omega), show j * 2 + 1 - xs.length = 1 by omega]; rfl
theorem own_by' {W : World} {base T n : Nat} {v : Value} {l : List Nat} (h : W.ownsRow base T 1 v n (u8s l)) (hl : ∀ x ∈ l, x < 256) : ∃ ao cap, v = .slice ao l.length cap ∧ By W ao l ∧ l.length = n ∧ n ≤ cap ∧ cap ≤ maxLen := by
  have e : l.length = n := by have := h.1; simpa using this
  rcases h.2 with ⟨rfl, h0⟩ | ⟨g, cap, cur, rfl, h1, h2, h3, h4, _⟩
  · have : l = [] := List.eq_nil_of_length_eq_zero (by omega)
    subst this
    exact ⟨none, 0, rfl, By.nil _ _, e, by omega, by simp [maxLen]⟩
  · exact ⟨_, cap, by rw [e], own_by h hl, e, h3, h4⟩
theorem Fw.cs {W : World} {z : Nat} {v : Value} {xs : List Value} {pre : List Ck} (h : Fw W z v xs pre) : ∃ lo cap, v = .slice lo pre.length cap ∧ Cs W lo pre := by
  rcases h.own.2 with ⟨rfl, h0⟩ | ⟨g, cap, cur, rfl, _⟩
  · have e := List.eq_nil_of_length_eq_zero h0
    subst e
    exact ⟨none, 0, rfl, fun j c hj => by simp at hj⟩
  · refine ⟨_, cap, rfl, fun j c hj => ?_⟩
    have hl : j < pre.length := by
      refine Classical.byContradiction fun hn => ?_
      rw [List.getElem?_eq_none (by omega)] at hj
      exact absurd hj (by simp)
    obtain ⟨bv, h1, h2, h3, h4, h5⟩ := h.body j c hj
    obtain ⟨ao, cp, rfl, hb, _⟩ := own_by' h3 h4.2
    refine ⟨g, 0, ao, cp, rfl, ?_, ?_, hb, h4.1, h5⟩
    · rw [Nat.zero_add, h.own.cellAt _ (by omega)]; exact h1
    · rw [Nat.zero_add, h.own.cellAt _ (by omega)]; exact h2
def sh (c : Ck) : Ck := (c.1, c.2.take 200)
/-- What few makes of chunks. -/
def fw (cs : List Ck) : List Ck := (cs.take 20).map sh
theorem sh_ok {c : Ck} (h : c.Ok) : (sh c).Ok ∧ (sh c).2.length ≤ 200 := ⟨⟨h.1, fun x hx => h.2 x (List.mem_of_mem_take hx)⟩, by simp [sh]; omega⟩
theorem map_succ {cs : List Ck} {k : Nat} (h : k < cs.length) : (cs.take (k + 1)).map sh = (cs.take k).map sh ++ [sh cs[k]] := by
  rw [List.take_succ_eq_append_getElem h, List.map_append]
  rfl
/-- Chunks lie in memory, however long. -/
def Cw (W : World) (lo : Option Addr) (cs : List Ck) : Prop := ∀ (j : Nat) (c : Ck), cs[j]? = some c → ∃ (gl ol : Nat) (ao : Option Addr) (cap : Nat), lo = some ⟨gl, ol, none⟩ ∧ W.cell? ⟨gl, ol + j * 2, none⟩ = some (.int .u32 (c.1 : Int)) ∧ W.cell? ⟨gl, ol + j * 2 + 1, none⟩ = some (.slice ao c.2.length cap) ∧ By W ao c.2 ∧ c.1 < 4294967296
theorem Cw.keep {W X : World} {lo : Option Addr} {cs : List Ck} (h : Cw W lo cs) (hb : Below W.heap.size W X) : Cw X lo cs := fun j c hj => by
  obtain ⟨gl, ol, ao, cap, e, c1, c2, b, r⟩ := h j c hj
  exact ⟨gl, ol, ao, cap, e, keepc hb c1, keepc hb c2, b.keep hb, r⟩
theorem Cw.ok {W : World} {lo : Option Addr} {cs : List Ck} (h : Cw W lo cs) : ∀ c ∈ cs, c.Ok := fun c hc => by
  obtain ⟨j, hj⟩ := List.getElem?_of_mem hc
  obtain ⟨_, _, _, _, _, _, _, b, r⟩ := h j c hj
  exact ⟨r, b.byte⟩
theorem Cw.at {W : World} {lo : Option Addr} {cs : List Ck} (h : Cw W lo cs) {k : Nat} (hk : k < cs.length) : ∃ (gl ol : Nat) (ao : Option Addr) (cap : Nat), lo = some ⟨gl, ol, none⟩ ∧ W.cell? ⟨gl, ol + k * 2, none⟩ = some (.int .u32 (cs[k].1 : Int)) ∧ W.cell? ⟨gl, ol + k * 2 + 1, none⟩ = some (.slice ao cs[k].2.length cap) ∧ By W ao cs[k].2 ∧ cs[k].1 < 4294967296 := h k cs[k] (List.getElem?_eq_getElem hk)
/-- No slice of the list is longer than its room. -/
def Caps (W : World) (lo : Option Addr) (n : Nat) : Prop := ∀ (gl ol j : Nat) (ao : Option Addr) (m cap : Nat), lo = some ⟨gl, ol, none⟩ → j < n → W.cell? ⟨gl, ol + j * 2 + 1, none⟩ = some (.slice ao m cap) → m ≤ cap
end Go.Proofs.YtbpglkhgggokcaaDoor
