import Derived.Test.YteghelmbibpohaaQI
import Derived.Test.YteghelmbibpohaaQG
import Derived.Deep.RegionLaw
import Derived.Deep.RegionLawGrows
/- The Book: over, most, sign, whole. -/
namespace Go.Proofs.Yteghelmbibpohaa
open Go.RowKit

def bkf (vw vs : Value) (mu : Int) : Nat → Value := fun k => if k = 0 then vw else if k = 1 then vs else .int .i64 mu
set_option maxHeartbeats 800000 in
set_option maxRecDepth 100000 in
theorem most_same (n : Nat) (hn : n ≤ 33554432) (w : World) : Calls Try.prog 54 #[.int .i64 n, .int .i64 n] w fun e w' => e = .returned (.int .i64 n) ∧ w' = w := by
  have h0 : (0 : Int) ≤ (n : Int) := by omega
  have h1 : (n : Int) ≤ 33554432 := by omega
  go_enter Try.func54, Try.ntmps54
  go_wp2
  go_ret
  exact ⟨rfl, rfl⟩
/-- The mark of the i-th list of numbers at its place j. -/
def sgn (i j : Nat) : Int := IntKind.i8.wrap ((1 + (i : Int) / 2) / 2 ^ (8 * (j % 3)) % 256)
set_option maxHeartbeats 800000 in
set_option maxRecDepth 100000 in
theorem sign_any (i j : Nat) (hi : i ≤ 33554432) (hj : j ≤ 33554432) (w : World) : Calls Try.prog 56 #[.int .i64 i, .int .i64 j] w fun e w' => e = .returned (.int .i8 (sgn i j)) ∧ w' = w := by
  have h0 : (0 : Int) ≤ (i : Int) := by omega
  have h1 : (i : Int) ≤ 33554432 := by omega
  have h2 : (0 : Int) ≤ (j : Int) := by omega
  have h3 : (j : Int) ≤ 33554432 := by omega
  have h4 : (0 : Int) ≤ (j : Int) % 3 := by omega
  have h5 : (j : Int) % 3 ≤ 2 := by omega
  go_enter Try.func56, Try.ntmps56
  go_wp2
  go_ret
  exact ⟨rfl, rfl⟩
set_option maxHeartbeats 800000 in
set_option maxRecDepth 100000 in
theorem over_any (bb : Nat) (vw vs : Value) (mu x : Int) (w : World) (h0 : 0 ≤ mu) (h1 : mu ≤ 1152921504606846976) (h2 : 0 ≤ x) (h3 : x ≤ 1152921504606846976) (h : w.rowIs bb 67 3 (bkf vw vs mu)) :
    Calls Try.prog 55 #[.pointer (some ⟨bb, 0, none⟩), .int .i64 x] w fun e w' => e = .returned (.bool (decide (33554432 < mu + 400 + x))) ∧ w'.rowIs bb 67 3 (bkf vw vs (mu + 400 + x)) ∧ But bb w w' := by
  have c2 : w.cell? ⟨bb, 2, none⟩ = some (.int .i64 mu) := h.cell (by omega)
  have f2 := h.frozen 2
  have H := hid1 h
  clear h
  go_enter Try.func55, Try.ntmps55
  go_wp2
  go_ret
  exact ⟨rfl, (H.out.set 2 _).congr fun j hj => by rcases (show j = 0 ∨ j = 1 ∨ j = 2 by omega) with rfl | rfl | rfl <;> rfl, But.self _ _ _⟩
/-- A list of lists: nothing, or a row of slices. -/
def Wg (w : World) (T : TypeId) (v : Value) (g n : Nat) (el : Nat → Value) : Prop :=
  (v = .slice none 0 0 ∧ n = 0) ∨ ∃ cw f, v = .slice (some ⟨g, 0, none⟩) n cw ∧ n ≤ cw ∧ cw ≤ maxLen ∧ w.rowIs g T cw f ∧ ∀ j, j < n → f j = el j
/-- The Book's memory: n answers are kept, two lists of each kind for each; none of its blocks is one of S. -/
structure Bk (w : World) (S : Nat → Prop) (bb n : Nat) (vw vs : Value) (mu : Int) (gw gs : Nat) (aw av : Nat → Option Addr) (lw ls cw cs : Nat → Nat) : Prop where
  row : w.rowIs bb 67 3 (bkf vw vs mu)
  wl : Wg w 25 vw gw (2 * n) (fun j => .slice (aw j) (lw j) (cw j))
  sl : Wg w 23 vs gs (2 * n) (fun j => .slice (av j) (ls j) (cs j))
  ew : ∀ j, j < 2 * n → 0 < lw j → ∃ g c f, aw j = some ⟨g, 0, none⟩ ∧ w.rowIs g 35 c f ∧ lw j ≤ c ∧ ∀ k, k < lw j → f k = .int .u64 ((1000 + j / 2 : Nat))
  es : ∀ j, j < 2 * n → 0 < ls j → ∃ g c f, av j = some ⟨g, 0, none⟩ ∧ w.rowIs g 24 c f ∧ ls j ≤ c ∧ ∀ k, k < ls j → f k = .int .i8 (sgn j k)
  bw : ∀ j, j < 2 * n → lw j ≤ 33554432
  bs : ∀ j, j < 2 * n → ls j ≤ 33554432
  nb : n ≤ 4194304
  ap : ¬ S bb ∧ (vw = .slice none 0 0 ∨ ¬ S gw) ∧ (vs = .slice none 0 0 ∨ ¬ S gs) ∧ (∀ j, j < 2 * n → 0 < lw j → ∀ p, aw j = some p → ¬ S p.block) ∧ ∀ j, j < 2 * n → 0 < ls j → ∀ p, av j = some p → ¬ S p.block
section
variable {w w1 : World} {S T : Nat → Prop} {bb n : Nat} {vw vs : Value} {mu : Int} {gw gs : Nat} {aw av : Nat → Option Addr} {lw ls cw cs : Nat → Nat}
theorem Wg.bp {Ty : TypeId} {v : Value} {g k : Nat} {el : Nat → Value} (h : Wg w Ty v g k el) (hu : BP T w w1) (hT : v = .slice none 0 0 ∨ ¬ T g) : Wg w1 Ty v g k el := by
  rcases h with h | ⟨cw, f, e, h1, h2, h3, h4⟩
  · exact .inl h
  · refine .inr ⟨cw, f, e, h1, h2, hu.row ?_ h3, h4⟩
    rcases hT with hT | hT
    · rw [e] at hT; injection hT with hT; cases hT
    · exact hT
theorem Bk.bp (h : Bk w S bb n vw vs mu gw gs aw av lw ls cw cs) (hu : BP S w w1) : Bk w1 S bb n vw vs mu gw gs aw av lw ls cw cs :=
  ⟨hu.row h.ap.1 h.row, h.wl.bp hu h.ap.2.1, h.sl.bp hu h.ap.2.2.1, fun j hj h0 => by
    obtain ⟨g, c, f, e, r, k1, k2⟩ := h.ew j hj h0
    exact ⟨g, c, f, e, hu.row (h.ap.2.2.2.1 j hj h0 _ e) r, k1, k2⟩, fun j hj h0 => by
    obtain ⟨g, c, f, e, r, k1, k2⟩ := h.es j hj h0
    exact ⟨g, c, f, e, hu.row (h.ap.2.2.2.2 j hj h0 _ e) r, k1, k2⟩, h.bw, h.bs, h.nb, h.ap⟩
theorem Bk.below (h : Bk w S bb n vw vs mu gw gs aw av lw ls cw cs) (hu : Below w.heap.size w w1) : Bk w1 S bb n vw vs mu gw gs aw av lw ls cw cs := h.bp (BP.bel hu)
end
set_option maxHeartbeats 3200000 in
set_option maxRecDepth 100000 in
theorem whole_any (S : Nat → Prop) (bb n : Nat) (vw vs : Value) (mu : Int) (gw gs : Nat) (aw av : Nat → Option Addr) (lw ls cw cs : Nat → Nat) (w : World) (h : Bk w S bb n vw vs mu gw gs aw av lw ls cw cs) :
    Calls Try.prog 30 #[.pointer (some ⟨bb, 0, none⟩)] w fun e w' => e = .returned (.bool true) ∧ Below w.heap.size w w' := by
  have H := hid1 h
  obtain ⟨wo, wcp, rfl⟩ : ∃ wo wcp, vw = .slice wo (2 * n) wcp := by
    rcases h.wl with ⟨e, e0⟩ | ⟨_, _, e, _⟩
    · rw [e0]; exact ⟨_, _, e⟩
    · exact ⟨_, _, e⟩
  obtain ⟨so, scp, rfl⟩ : ∃ so scp, vs = .slice so (2 * n) scp := by
    rcases h.sl with ⟨e, e0⟩ | ⟨_, _, e, _⟩
    · rw [e0]; exact ⟨_, _, e⟩
    · exact ⟨_, _, e⟩
  have hnb := h.nb
  have in0 : (0 : Int) ≤ ((2 * n : Nat) : Int) := by omega
  have in1 : ((2 * n : Nat) : Int) ≤ 8388608 := by omega
  clear h
  generalize hL : 2 * n = L at *
  go_enter Try.func30, Try.ntmps30
  go_wp2_with fail
  go_loopw [3] (fun i wr => ∃ k : Nat, k ≤ L ∧ i = .int .i64 k ∧ Below w.heap.size w wr) (fun i _ => L - (intOf i).toNat)
  case atStart => exact ⟨0, Nat.zero_le _, rfl, Below.refl _ _⟩
  case round =>
    obtain ⟨k, hk, rfl, hB⟩ := hrel
    have ik0 : (0 : Int) ≤ (k : Int) := by omega
    have hb := H.out.below hB
    have x0 : wr.cell? ⟨bb, 0, none⟩ = some (.slice wo L wcp) := hb.row.cell (by omega)
    by_cases hlt : k < L
    · have ik : (k : Int) < (L : Int) := by omega
      obtain ⟨f, rfl, hle, hfr⟩ : ∃ f, wo = some ⟨gw, 0, none⟩ ∧ L ≤ wcp ∧ (wr.rowIs gw 25 wcp f ∧ ∀ j, j < L → f j = .slice (aw j) (lw j) (cw j)) := by
        rcases hb.wl with ⟨_, e⟩ | ⟨c', f, e, k1, k2, k3, k4⟩
        · omega
        · injection e with e1 e2 e3
          subst e3
          exact ⟨f, e1, by omega, k3, fun j hj => k4 j (by omega)⟩
      have y0 := hfr.1.cell (i := k) (by omega)
      rw [hfr.2 k hlt] at y0
      have hlk := hb.bw k (by omega)
      have il0 : (0 : Int) ≤ (lw k : Int) := by omega
      have il1 : (lw k : Int) ≤ 33554432 := by omega
      have iq0 : (0 : Int) ≤ (k : Int) / 2 := by omega
      have iq1 : (k : Int) / 2 ≤ 8388608 := by omega
      have iq2 : ((1000 + k / 2 : Nat) : Int) = 1000 + (k : Int) / 2 := by omega
      have E : Hid (∀ j, j < lw k → ∃ g, aw k = some ⟨g, 0, none⟩ ∧ wr.cell? ⟨g, j, none⟩ = some (.int .u64 ((1000 + k / 2 : Nat)))) := hid1 fun j hj => by
        obtain ⟨g, c, f, e, r, k1, k2⟩ := hb.ew k (by omega) (by omega)
        exact ⟨g, e, by rw [← k2 j hj]; exact r.cell (by omega)⟩
      clear hb hfr
      generalize hao : aw k = ak at *
      generalize hlk' : lw k = lk at *
      generalize hck : cw k = ck at *
      go_wp2_with fail
      go_loopw [4] (fun i2 w2 => ∃ j : Nat, j ≤ lk ∧ i2 = .int .i64 j ∧ w2 = wr) (fun i2 _ => lk - (intOf i2).toNat)
      case atStart => exact ⟨0, Nat.zero_le _, rfl, rfl⟩
      case round =>
        obtain ⟨j, hj, rfl, ew⟩ := hrel
        subst ew
        have ij0 : (0 : Int) ≤ (j : Int) := by omega
        by_cases hjl : j < lk
        · have ij : (j : Int) < (lk : Int) := by omega
          obtain ⟨g, rfl, c⟩ := E.out j hjl
          rw [iq2] at c
          go_wp2_with fail
          exact ⟨⟨j + 1, by omega, by go_num, trivial⟩, by simp [intOf]; omega⟩
        · have hjc : j = lk := by omega
          subst hjc
          go_wp2_with fail
          exact ⟨⟨k + 1, by omega, by go_num, hB⟩, by simp [intOf]; omega⟩
    · have hkc : k = L := by omega
      subst hkc
      have HB := hid1 hB
      clear hb
      go_wp2_with fail
      go_loopw [5] (fun i w3 => ∃ q : Nat, q ≤ k ∧ i = .int .i64 q ∧ Below w.heap.size w w3) (fun i _ => k - (intOf i).toNat)
      case atStart => exact ⟨0, Nat.zero_le _, rfl, HB.out⟩
      case round =>
        clear HB hB
        obtain ⟨q, hq, rfl, hB⟩ := hrel
        rename_i w3 _
        have iq0 : (0 : Int) ≤ (q : Int) := by omega
        have hb := H.out.below hB
        have x1 : wr.cell? ⟨bb, 1, none⟩ = some (.slice so k scp) := hb.row.cell (by omega)
        by_cases hlt : q < k
        · have iq : (q : Int) < (k : Int) := by omega
          obtain ⟨f, rfl, hle, hfr⟩ : ∃ f, so = some ⟨gs, 0, none⟩ ∧ k ≤ scp ∧ (wr.rowIs gs 23 scp f ∧ ∀ j, j < k → f j = .slice (av j) (ls j) (cs j)) := by
            rcases hb.sl with ⟨_, e⟩ | ⟨c', f, e, k1, k2, k3, k4⟩
            · omega
            · injection e with e1 e2 e3
              subst e3
              exact ⟨f, e1, by omega, k3, fun j hj => k4 j (by omega)⟩
          have y0 := hfr.1.cell (i := q) (by omega)
          rw [hfr.2 q hlt] at y0
          have hlk := hb.bs q (by omega)
          have E : Hid (∀ j, j < ls q → ∃ g, av q = some ⟨g, 0, none⟩ ∧ wr.cell? ⟨g, j, none⟩ = some (.int .i8 (sgn q j))) := hid1 fun j hj => by
            obtain ⟨g, c, f, e, r, k1, k2⟩ := hb.es q (by omega) (by omega)
            exact ⟨g, e, by rw [← k2 j hj]; exact r.cell (by omega)⟩
          have SG : Hid (∀ j : Nat, j ≤ 33554432 → ∀ w : World, Calls Try.prog 56 #[.int .i64 q, .int .i64 j] w fun e w' => e = .returned (.int .i8 (sgn q j)) ∧ w' = w) := hid1 fun j hj w => sign_any q j (by omega) hj w
          have HBw := hid1 hB
          clear hb hfr hB
          generalize hao : av q = ak at *
          generalize hlk' : ls q = lk at *
          generalize hck : cs q = ck at *
          have il0 : (0 : Int) ≤ (lk : Int) := by omega
          have il1 : (lk : Int) ≤ 33554432 := by omega
          go_wp2_with fail
          go_loopw [6] (fun i2 w2 => ∃ j : Nat, j ≤ lk ∧ i2 = .int .i64 j ∧ Below wr.heap.size wr w2) (fun i2 _ => lk - (intOf i2).toNat)
          case atStart => exact ⟨0, Nat.zero_le _, rfl, Below.refl _ _⟩
          case round =>
            obtain ⟨j, hj, rfl, hB2⟩ := hrel
            rename_i w5 _
            have ij0 : (0 : Int) ≤ (j : Int) := by omega
            have z1 := keepc hB2 x1
            have z0 := keepc hB2 y0
            by_cases hjl : j < lk
            · have ij : (j : Int) < (lk : Int) := by omega
              obtain ⟨g, rfl, c⟩ := E.out j hjl
              replace c := keepc hB2 c
              have SG1 := hid1 (SG.out j (by omega))
              go_upto_region 15 with fail
              refine still_tail 13 (by kernel_rfl) ?_
              simp only [List.take_succ_cons, List.take_zero, List.drop_succ_cons, List.drop_zero]
              repeat still_step
              still_call (SG1.out _)
              repeat still_step
              refine wpStill_nil ?_
              go_wp2_with fail
              exact ⟨⟨j + 1, by omega, by go_num, Below.drew hB2⟩, by simp [intOf]; omega⟩
            · have hjc : j = lk := by omega
              subst hjc
              go_wp2_with fail
              exact ⟨⟨q + 1, by omega, by go_num, bl_step HBw.out hB2⟩, by simp [intOf]; omega⟩
        · have hqc : q = k := by omega
          subst hqc
          go_wp2_with fail
          go_ret
          exact ⟨rfl, hB⟩
end Go.Proofs.Yteghelmbibpohaa
/- Book.take. -/
namespace Go.Proofs.Yteghelmbibpohaa
open Go.RowKit

/-- The first k of them are v. -/
def mkf (F : Nat → Value) (v : Nat → Value) (k : Nat) : Nat → Value := fun j => if j < k then v j else F j
theorem mkf_step {w : World} {g T c k : Nat} {F v : Nat → Value} (h : w.rowIs g T c (mkf F v k)) : (w.setCell ⟨g, k, none⟩ (v k)).rowIs g T c (mkf F v (k + 1)) := by
  refine (h.set k _).congr fun j _ => ?_
  unfold mkf
  by_cases e : j = k
  · subst e; simp
  · rw [if_neg e]
    by_cases h : j < k
    · rw [if_pos h, if_pos (by omega)]
    · rw [if_neg h, if_neg (by omega)]
theorem Own.congr {w : World} {T : TypeId} {ao : Option Addr} {m c : Nat} {f g : Nat → Value} (h : Own w T ao m c f) (hf : ∀ j, j < m → f j = g j) : Own w T ao m c g := by
  rcases h with h | ⟨b, e, h1, h2⟩
  · exact .inl h
  · exact .inr ⟨b, e, h1, h2.congr hf⟩
theorem Own.below {w w1 : World} {T : TypeId} {ao : Option Addr} {m c : Nat} {f : Nat → Value} (h : Own w T ao m c f) (hb : Below w.heap.size w w1) : Own w1 T ao m c f := h.bp (BP.bel (S := fun _ => False) hb) fun _ _ k => k
theorem Own.but {w w1 : World} {T T' : TypeId} {ao : Option Addr} {m c b k : Nat} {f F : Nat → Value} (h : Own w T ao m c f) (hr : w.rowIs b T' k F) (hT : T ≠ T') (hu : But b w w1) : Own w1 T ao m c f := by
  rcases h with h | ⟨g, e, h1, h2⟩
  · exact .inl h
  · exact .inr ⟨g, e, h1, hu.row (row_ne h2 hr hT) h2⟩
/-- The Book's own cells turn. -/
theorem Bk.onB {w w1 : World} {S : Nat → Prop} {bb n : Nat} {vw vs : Value} {mu mu' : Int} {gw gs : Nat} {aw av : Nat → Option Addr} {lw ls cw cs : Nat → Nat} (h : Bk w S bb n vw vs mu gw gs aw av lw ls cw cs) (hr : w1.rowIs bb 67 3 (bkf vw vs mu')) (hu : But bb w w1) : Bk w1 S bb n vw vs mu' gw gs aw av lw ls cw cs :=
  ⟨hr, by
    rcases h.wl with k | ⟨c, f, e, k1, k2, k3, k4⟩
    · exact .inl k
    · exact .inr ⟨c, f, e, k1, k2, hu.row (row_ne k3 h.row (by decide)) k3, k4⟩, by
    rcases h.sl with k | ⟨c, f, e, k1, k2, k3, k4⟩
    · exact .inl k
    · exact .inr ⟨c, f, e, k1, k2, hu.row (row_ne k3 h.row (by decide)) k3, k4⟩, fun j hj h0 => by
    obtain ⟨g, c, f, e, r, k1, k2⟩ := h.ew j hj h0
    exact ⟨g, c, f, e, hu.row (row_ne r h.row (by decide)) r, k1, k2⟩, fun j hj h0 => by
    obtain ⟨g, c, f, e, r, k1, k2⟩ := h.es j hj h0
    exact ⟨g, c, f, e, hu.row (row_ne r h.row (by decide)) r, k1, k2⟩, h.bw, h.bs, h.nb, h.ap⟩
/-- The blocks of an answer. -/
def Ab (xo so : Option Addr) : Nat → Prop := fun b => (∃ p, xo = some p ∧ b = p.block) ∨ ∃ p, so = some p ∧ b = p.block
theorem step_append_own {ops : Array Oper} {o : Oper} {a : Act} {w : World} {K : Act → World → Prop} {Q : Exit → Act → World → Prop} {E : Prop}
    (hg : o.guard = none) (s x : Operand) (t : TypeId) (hop : o.op = Op.call { callee := Callee.builtin Builtin.append, args := #[s, x], argTypes := #[t, t] })
    (base : Nat) (e : TypeId) (i : TypeInfo) (z : Value) (size bytes : Nat) (ht : Try.prog.underlying t = some (.slice e)) (hi : Try.prog.info? e = some i) (hz : i.zero = some z)
    (hsize : i.size = size) (hby : i.bytes = bytes) (hzs : z.cells.size = size) (hsz : 0 < size)
    (v : Value) (n : Nat) (xs : List Value) (hs : a.eval s = v) (hown : w.ownsRow base e size v n xs)
    (ad : Addr) (m c : Nat) (news : List Value) (hx : a.eval x = .slice (some ad) m c) (hl : news.length = m * size) (hnews : ∀ j u, news[j]? = some u → w.cell? (ad.add j) = some u) (h1 : ∀ u ∈ news, u.oneCell' = true)
    (h63 : n + m ≤ maxLen) (hbytes : (n + m) * bytes ≤ 140737488355328) (hbase : base ≤ w.heap.size)
    (hK : ∀ v' w', w'.ownsRow base e size v' (n + m) (xs ++ news) → w.grownBy w' v.ownBlock → (v'.ownBlock = v.ownBlock ∨ v'.ownBlock = some w.heap.size) → K (a.put o.dst v') w') :
    if Region.wanted o (yielded ops a.tmps) = true then Oper.wp Try.prog o a w K Q else E := by
  have hw : Region.wanted o (yielded ops a.tmps) = true := by simp [Region.wanted, hg]
  rw [if_pos hw]
  obtain ⟨v', w', hr, h2, h3, h4, h5⟩ := run_append_own_at (P := Try.prog) w base t o.type e i z size bytes ht hi hz hsize hby hzs hsz v n xs hown ad m c news hl hnews h1 h63 hbytes hbase
  unfold Oper.wp execOp
  simp only [hop, resolve, invoke, builtin, Sem.run_bind, Sem.run_pure, Result.andThen_ok, List.map_toArray, List.map_cons, List.map_nil, hs, hx, hr]
  exact hK _ _ h2 h3 h5
theorem Wg.own {w : World} {T : TypeId} {v : Value} {g n : Nat} {el : Nat → Value} (h : Wg w T v g n el) : w.ownsRow 0 T 1 v n (rowL el n) := by
  rcases h with ⟨rfl, rfl⟩ | ⟨cw, f, rfl, h1, h2, h3, h4⟩
  · exact World.ownsRow_nil _ _ _ _
  · have e : rowL el n = rowL f n := List.map_congr_left fun j hj => (h4 j (by simpa using hj)).symm
    rw [e]
    exact own_of_row h3 h1 h2
/-- An answer's blocks are of numbers alone: the Book's others are none of them. -/
theorem Bk.ab {V Y : World} {S : Nat → Prop} {bb n : Nat} {vw vs : Value} {mu : Int} {gw gs : Nat} {aw av : Nat → Option Addr} {lw ls cw cs : Nat → Nat} {xo so : Option Addr} {m l : Nat} {f g : Nat → Value} (h : Bk V S bb n vw vs mu gw gs aw av lw ls cw cs) (oa : Own V 35 xo m m f) (ob : Own V 24 so l l g) (hu : BP (Ab xo so) V Y)
    (hE1 : ∀ j, j < 2 * n → 0 < lw j → ∀ p, aw j = some p → ¬ Ab xo so p.block) (hE2 : ∀ j, j < 2 * n → 0 < ls j → ∀ p, av j = some p → ¬ Ab xo so p.block) : Bk Y S bb n vw vs mu gw gs aw av lw ls cw cs := by
  have no : ∀ {b T k F}, V.rowIs b T k F → T ≠ 35 → T ≠ 24 → ¬ Ab xo so b := by
    rintro b T k F hr t1 t2 (⟨p, e, rfl⟩ | ⟨p, e, rfl⟩)
    · rcases oa with ⟨e2, _⟩ | ⟨q, e2, _, r⟩
      · rw [e2] at e; cases e
      · rw [e2] at e; injection e with e; subst e; exact row_ne hr r t1 rfl
    · rcases ob with ⟨e2, _⟩ | ⟨q, e2, _, r⟩
      · rw [e2] at e; cases e
      · rw [e2] at e; injection e with e; subst e; exact row_ne hr r t2 rfl
  exact ⟨hu.row (no h.row (by decide) (by decide)) h.row, by
    rcases h.wl with k | ⟨c, f, e, k1, k2, k3, k4⟩
    · exact .inl k
    · exact .inr ⟨c, f, e, k1, k2, hu.row (no k3 (by decide) (by decide)) k3, k4⟩, by
    rcases h.sl with k | ⟨c, f, e, k1, k2, k3, k4⟩
    · exact .inl k
    · exact .inr ⟨c, f, e, k1, k2, hu.row (no k3 (by decide) (by decide)) k3, k4⟩, fun j hj h0 => by
    obtain ⟨g, c, f, e, r, k1, k2⟩ := h.ew j hj h0
    exact ⟨g, c, f, e, hu.row (hE1 j hj h0 _ e) r, k1, k2⟩, fun j hj h0 => by
    obtain ⟨g, c, f, e, r, k1, k2⟩ := h.es j hj h0
    exact ⟨g, c, f, e, hu.row (hE2 j hj h0 _ e) r, k1, k2⟩, h.bw, h.bs, h.nb, h.ap⟩
/-- The Book's words with two more. -/
def elW (el : Nat → Value) (N : Nat) (a b : Value) : Nat → Value := fun j => if j = N then a else if j = N + 1 then b else el j
theorem grown_bel {w w' : World} (h : w.grownBy w' none) : Below w.heap.size w w' := ⟨h.os, h.tape, h.output, h.size, fun k hk => h.block k hk (by simp)⟩
theorem Mv.bel {w0 w w' : World} {go : Nat} {v : Value} (h : Mv w0 go w v) (hb : Below w.heap.size w w') : Mv w0 go w' v :=
  ⟨⟨hb.os.trans h.but.os, hb.tape.trans h.but.tape, hb.output.trans h.but.output, Nat.le_trans h.but.size hb.size, fun k hk hne => (hb.block k (Nat.lt_of_lt_of_le hk h.but.size)).trans (h.but.block k hk hne)⟩, h.at_⟩
/-- Where a list of lists lies: a block of its own, or none. -/
theorem Wg.mv {w : World} {T : TypeId} {v : Value} {g n : Nat} {el : Nat → Value} (h : Wg w T v g n el) : ∃ go, (∀ X, Mv X go X v) ∧ (go = w.heap.size ∨ (go = g ∧ v ≠ .slice none 0 0 ∧ ∃ c f, w.rowIs g T c f)) := by
  rcases h with ⟨rfl, rfl⟩ | ⟨cw, f, rfl, h1, h2, h3, h4⟩
  · exact ⟨w.heap.size, fun X => ⟨But.refl _ _, .inl rfl⟩, .inl rfl⟩
  · exact ⟨g, fun X => ⟨But.refl _ _, .inr (.inl rfl)⟩, .inr ⟨rfl, (fun e => by injection e with e; cases e), _, _, h3⟩⟩
theorem elW_of {el f : Nat → Value} {N : Nat} {a b : Value} {j : Nat} (hj : j < N + 2) (h : (rowL el N ++ [a, b])[j]? = some (f j)) : f j = elW el N a b j := by
  unfold elW
  by_cases h1 : j < N
  · rw [List.getElem?_append_left (by simpa [rowL] using h1)] at h
    obtain ⟨_, h2⟩ := rowL_get h
    rw [if_neg (by omega), if_neg (by omega)]
    exact h2
  · rw [List.getElem?_append_right (by simp [rowL]; omega)] at h
    rcases (show j = N ∨ j = N + 1 by omega) with rfl | rfl
    · simp [rowL] at h
      rw [if_pos rfl]
      exact h.symm
    · simp [rowL] at h
      rw [if_neg (by omega), if_pos rfl]
      exact h.symm
theorem mv_at {w0 w : World} {go g n c : Nat} (h : Mv w0 go w (.slice (some ⟨g, 0, none⟩) n c)) : g = go ∨ w0.heap.size ≤ g := by
  rcases h.at_ with h | h | ⟨b, h, hb⟩
  · simp [Value.ownBlock] at h
  · simp [Value.ownBlock] at h; exact .inl h
  · simp [Value.ownBlock] at h; subst h; exact .inr hb
theorem mark_of {v : Value} {f : Nat → Value} {k q : Nat} (h : (rowL (fun _ => v) k ++ [v])[q]? = some (f q)) (hq : q < k + 1) : f q = v := by
  by_cases h1 : q < k
  · rw [List.getElem?_append_left (by simpa [rowL] using h1)] at h
    exact (rowL_get h).2
  · obtain rfl : q = k := by omega
    rw [List.getElem?_append_right (by simp [rowL])] at h
    simp [rowL] at h
    exact h.symm
theorem own_olds {w : World} {T : TypeId} {ao : Option Addr} {m : Nat} {v : Nat → Value} (h : Own w T ao m m v) : (ao = none → m = 0 ∧ m = 0) ∧ ∀ b, ao = some b → ∀ j u, (rowL v m)[j]? = some u → w.cell? (b.add j) = some u := by
  rcases h with ⟨e, e0, _⟩ | ⟨g, e, _, r⟩
  · exact ⟨fun _ => ⟨e0, e0⟩, fun b hb => by rw [e] at hb; cases hb⟩
  · refine ⟨fun hn => (by rw [e] at hn; cases hn), fun b hb j u hu => ?_⟩
    rw [e] at hb
    injection hb with hb
    subst hb
    obtain ⟨h1, rfl⟩ := rowL_get hu
    have c := r.cell h1
    by_cases h0 : j = 0
    · subst h0; exact c
    · simp [Addr.add, h0, c]
theorem info_i8sl : (Try.prog.info? 23).map (fun i => (i.zero, i.size, i.bytes)) = some (some (.slice none 0 0), 1, 24) := by kernel_rfl
theorem und_signss : Try.prog.underlying 65 = some (.slice 23) := by kernel_rfl
theorem mark_at {v : Nat → Value} {f : Nat → Value} {k q : Nat} (h : (rowL v k ++ [v k])[q]? = some (f q)) (hq : q < k + 1) : f q = v q := by
  by_cases h1 : q < k
  · rw [List.getElem?_append_left (by simpa [rowL] using h1)] at h
    exact (rowL_get h).2
  · obtain rfl : q = k := by omega
    rw [List.getElem?_append_right (by simp [rowL])] at h
    simp [rowL] at h
    exact h.symm
theorem Wg.off {w w1 : World} {T T1 : TypeId} {v : Value} {g n b go k : Nat} {el F : Nat → Value} (h : Wg w T v g n el) (hu : BP (fun x => x = b ∨ x = go) w w1) (hr : w.rowIs b T1 k F) (ht : T ≠ T1) (hgo : ∀ c f, w.rowIs g T c f → g ≠ go) : Wg w1 T v g n el := by
  rcases h with h | ⟨c, f, e, h1, h2, h3, h4⟩
  · exact .inl h
  · refine .inr ⟨c, f, e, h1, h2, hu.row ?_ h3, h4⟩
    rintro (e | e)
    · exact row_ne h3 hr ht e
    · exact hgo _ _ h3 e
theorem Own.off {w w1 : World} {T T1 : TypeId} {ao : Option Addr} {m c b go k : Nat} {f F : Nat → Value} (h : Own w T ao m c f) (hu : BP (fun x => x = b ∨ x = go) w w1) (hr : w.rowIs b T1 k F) (ht : T ≠ T1) (hgo : ∀ g k f, w.rowIs g T k f → g ≠ go) : Own w1 T ao m c f := by
  rcases h with h | ⟨g, e, h1, h2⟩
  · exact .inl h
  · refine .inr ⟨g, e, h1, hu.row ?_ h2⟩
    rintro (e | e)
    · exact row_ne h2 hr ht e
    · exact hgo _ _ _ h2 e
def upd2 {α : Type} (f : Nat → α) (N : Nat) (a b : α) : Nat → α := fun j => if j = N then a else if j = N + 1 then b else f j
theorem sgn_odd (n q : Nat) : sgn (2 * n + 1) q = sgn (2 * n) q := by
  unfold sgn
  rw [show ((2 * n + 1 : Nat) : Int) / 2 = ((2 * n : Nat) : Int) / 2 by omega]
theorem elW_upd {aw : Nat → Option Addr} {lw cw : Nat → Nat} {N : Nat} {a b : Option Addr} {la lb ca cb : Nat} (j : Nat) : elW (fun j => .slice (aw j) (lw j) (cw j)) N (.slice a la ca) (.slice b lb cb) j = .slice (upd2 aw N a b j) (upd2 lw N la lb j) (upd2 cw N ca cb j) := by
  unfold elW upd2
  by_cases h1 : j = N
  · simp [h1]
  · by_cases h2 : j = N + 1
    · simp [h2]
    · simp [h1, h2]
/-- A block of another type than the two that turn. -/
theorem BP.off {w w1 : World} {T T1 T2 : TypeId} {b go g n k : Nat} {f F : Nat → Value} (hu : BP (fun x => x = b ∨ x = go) w w1) (h : w.rowIs g T n f) (hr : w.rowIs b T1 k F) (ht : T ≠ T1) (hgo : go = w.heap.size ∨ ∃ c f, w.rowIs go T2 c f) (ht2 : T ≠ T2) : w1.rowIs g T n f := by
  refine hu.row ?_ h
  rintro (e | e)
  · exact row_ne h hr ht e
  · rcases hgo with h1 | ⟨c, f', r⟩
    · have := h.lt; omega
    · rw [e] at h; exact row_ne h r ht2 rfl
theorem Own.off2 {w w1 : World} {T T1 T2 : TypeId} {ao : Option Addr} {m c b go k : Nat} {f F : Nat → Value} (h : Own w T ao m c f) (hu : BP (fun x => x = b ∨ x = go) w w1) (hr : w.rowIs b T1 k F) (ht : T ≠ T1) (hgo : go = w.heap.size ∨ ∃ c f, w.rowIs go T2 c f) (ht2 : T ≠ T2) : Own w1 T ao m c f := by
  rcases h with h | ⟨g, e, h1, h2⟩
  · exact .inl h
  · exact .inr ⟨g, e, h1, hu.off h2 hr ht hgo ht2⟩
theorem Wg.off2 {w w1 : World} {T T1 T2 : TypeId} {v : Value} {g n b go k : Nat} {el F : Nat → Value} (h : Wg w T v g n el) (hu : BP (fun x => x = b ∨ x = go) w w1) (hr : w.rowIs b T1 k F) (ht : T ≠ T1) (hgo : go = w.heap.size ∨ ∃ c f, w.rowIs go T2 c f) (ht2 : T ≠ T2) : Wg w1 T v g n el := by
  rcases h with h | ⟨c, f, e, h1, h2, h3, h4⟩
  · exact .inl h
  · exact .inr ⟨c, f, e, h1, h2, hu.off h3 hr ht hgo ht2, h4⟩
/-- One answer more is kept. -/
theorem Bk.more {Y Z F : World} {S : Nat → Prop} {bb n : Nat} {vw vs : Value} {mu : Int} {gw gs : Nat} {aw av : Nat → Option Addr} {lw ls cw cs : Nat → Nat} {xo so : Option Addr} {k j gX gZ gw' cw' g2 c2 gs' cs' h2 d2 : Nat} {vZ : Value} {f2 e2 : Nat → Value} {muZ : Int}
    (h : Bk Y S bb n vw vs mu gw gs aw av lw ls cw cs) (hS : ∀ b, S b → b < Y.heap.size) (hA : ∀ b, Ab xo so b → ¬ S b) (hn : n < 4194304) (hk : k ≤ 262144) (hj : j ≤ 16777216)
    (oa : Own Y 35 xo k k (fun _ => .int .u64 (1000 + (n : Int)))) (ob : Own Y 24 so j j (fun q => .int .i8 (sgn (2 * n) q)))
    (hgX : gX = Y.heap.size ∨ (gX = gw ∧ vw ≠ .slice none 0 0 ∧ ∃ c f, Y.rowIs gw 25 c f)) (hp2 : BP (fun b => b = bb ∨ b = gX) Y Z) (rZ : Z.rowIs bb 67 3 (bkf vZ vs muZ))
    (hgZ : gZ = Z.heap.size ∨ (gZ = gs ∧ vs ≠ .slice none 0 0 ∧ ∃ c f, Z.rowIs gs 23 c f)) (hp3 : BP (fun b => b = bb ∨ b = gZ) Z F)
    (wl2 : Wg Z 25 (.slice (some ⟨gw', 0, none⟩) (2 * n + 2) cw') gw' (2 * n + 2) (elW (fun j => .slice (aw j) (lw j) (cw j)) (2 * n) (.slice xo k k) (.slice (some ⟨g2, 0, none⟩) (k + 1) c2))) (rg2 : Z.rowIs g2 35 c2 f2) (hle2 : k + 1 ≤ c2) (hf2 : ∀ q, q < k + 1 → f2 q = .int .u64 (1000 + (n : Int))) (hg2 : Y.heap.size ≤ g2) (hgw2 : gw' = gX ∨ Y.heap.size ≤ gw')
    (rF : F.rowIs bb 67 3 (bkf (.slice (some ⟨gw', 0, none⟩) (2 * n + 2) cw') (.slice (some ⟨gs', 0, none⟩) (2 * n + 2) cs') mu))
    (sl3 : Wg F 23 (.slice (some ⟨gs', 0, none⟩) (2 * n + 2) cs') gs' (2 * n + 2) (elW (fun j => .slice (av j) (ls j) (cs j)) (2 * n) (.slice so j j) (.slice (some ⟨h2, 0, none⟩) (j + 1) d2))) (rh2 : F.rowIs h2 24 d2 e2) (hle4 : j + 1 ≤ d2) (hf4 : ∀ q, q < j + 1 → e2 q = .int .i8 (sgn (2 * n) q)) (hh2 : Z.heap.size ≤ h2) (hgs2 : gs' = gZ ∨ Z.heap.size ≤ gs') :
    Bk F S bb (n + 1) (.slice (some ⟨gw', 0, none⟩) (2 * n + 2) cw') (.slice (some ⟨gs', 0, none⟩) (2 * n + 2) cs') mu gw' gs' (upd2 aw (2 * n) xo (some ⟨g2, 0, none⟩)) (upd2 av (2 * n) so (some ⟨h2, 0, none⟩)) (upd2 lw (2 * n) k (k + 1)) (upd2 ls (2 * n) j (j + 1)) (upd2 cw (2 * n) k c2) (upd2 cs (2 * n) j d2) := by
  have hX : gX = Y.heap.size ∨ ∃ c f, Y.rowIs gX 25 c f := by
    rcases hgX with e | ⟨e, _, c, f, r⟩
    · exact .inl e
    · exact .inr ⟨c, f, by rw [e]; exact r⟩
  have hZ : gZ = Z.heap.size ∨ ∃ c f, Z.rowIs gZ 23 c f := by
    rcases hgZ with e | ⟨e, _, c, f, r⟩
    · exact .inl e
    · exact .inr ⟨c, f, by rw [e]; exact r⟩
  have hYZ := hp2.size
  have up : ∀ {g T q f}, Y.rowIs g T q f → T ≠ 67 → T ≠ 25 → T ≠ 23 → F.rowIs g T q f := fun r t1 t2 t3 => hp3.off (hp2.off r h.row t1 hX t2) rZ t1 hZ t3
  have oaF := (oa.off2 hp2 h.row (by decide) hX (by decide)).off2 hp3 rZ (by decide) hZ (by decide)
  have obF := (ob.off2 hp2 h.row (by decide) hX (by decide)).off2 hp3 rZ (by decide) hZ (by decide)
  have e2n : 2 * (n + 1) = 2 * n + 2 := by omega
  have nS : ∀ b, Y.heap.size ≤ b → ¬ S b := fun b hb k => by have := hS b k; omega
  refine ⟨rF, ?_, ?_, fun i hi h0 => ?_, fun i hi h0 => ?_, fun i hi => ?_, fun i hi => ?_, by omega, h.ap.1, .inr ?_, .inr ?_, fun i hi h0 p hp => ?_, fun i hi h0 p hp => ?_⟩
  · rw [e2n]
    rcases wl2.off2 hp3 rZ (by decide) hZ (by decide) with k | ⟨c, f, e, k1, k2, k3, k4⟩
    · exact .inl k
    · exact .inr ⟨c, f, e, k1, k2, k3, fun q hq => (k4 q hq).trans (elW_upd q)⟩
  · rw [e2n]
    rcases sl3 with k | ⟨c, f, e, k1, k2, k3, k4⟩
    · exact .inl k
    · exact .inr ⟨c, f, e, k1, k2, k3, fun q hq => (k4 q hq).trans (elW_upd q)⟩
  · rcases (show i < 2 * n ∨ i = 2 * n ∨ i = 2 * n + 1 by omega) with hi' | rfl | rfl
    · simp only [upd2, if_neg (show ¬ i = 2 * n by omega), if_neg (show ¬ i = 2 * n + 1 by omega)] at h0 ⊢
      obtain ⟨g, c, f, e, r, k1, k2⟩ := h.ew i hi' h0
      exact ⟨g, c, f, e, up r (by decide) (by decide) (by decide), k1, k2⟩
    · simp only [upd2, if_true] at h0 ⊢
      rcases oaF with ⟨_, e, _⟩ | ⟨g, e, _, r⟩
      · omega
      · exact ⟨g, k, _, e, r, Nat.le_refl _, fun q _ => by congr 1; omega⟩
    · simp only [upd2, if_neg (show ¬ 2 * n + 1 = 2 * n by omega), if_true] at h0 ⊢
      exact ⟨g2, c2, f2, rfl, hp3.off rg2 rZ (by decide) hZ (by decide), hle2, fun q hq => by rw [hf2 q hq]; congr 1; omega⟩
  · rcases (show i < 2 * n ∨ i = 2 * n ∨ i = 2 * n + 1 by omega) with hi' | rfl | rfl
    · simp only [upd2, if_neg (show ¬ i = 2 * n by omega), if_neg (show ¬ i = 2 * n + 1 by omega)] at h0 ⊢
      obtain ⟨g, c, f, e, r, k1, k2⟩ := h.es i hi' h0
      exact ⟨g, c, f, e, up r (by decide) (by decide) (by decide), k1, k2⟩
    · simp only [upd2, if_true] at h0 ⊢
      rcases obF with ⟨_, e, _⟩ | ⟨g, e, _, r⟩
      · omega
      · exact ⟨g, j, _, e, r, Nat.le_refl _, fun q _ => rfl⟩
    · simp only [upd2, if_neg (show ¬ 2 * n + 1 = 2 * n by omega), if_true] at h0 ⊢
      exact ⟨h2, d2, e2, rfl, rh2, hle4, fun q hq => by rw [hf4 q hq, sgn_odd]⟩
  · unfold upd2
    by_cases h1 : i = 2 * n
    · rw [if_pos h1]; omega
    · rw [if_neg h1]
      by_cases h3 : i = 2 * n + 1
      · rw [if_pos h3]; omega
      · rw [if_neg h3]; exact h.bw i (by omega)
  · unfold upd2
    by_cases h1 : i = 2 * n
    · rw [if_pos h1]; omega
    · rw [if_neg h1]
      by_cases h3 : i = 2 * n + 1
      · rw [if_pos h3]; omega
      · rw [if_neg h3]; exact h.bs i (by omega)
  · rcases hgw2 with e | e
    · rcases hgX with e1 | ⟨e1, e3, _⟩
      · exact nS _ (by omega)
      · rw [e, e1]; exact h.ap.2.1.resolve_left e3
    · exact nS _ e
  · rcases hgs2 with e | e
    · rcases hgZ with e1 | ⟨e1, e3, _⟩
      · exact nS _ (by omega)
      · rw [e, e1]; exact h.ap.2.2.1.resolve_left e3
    · exact nS _ (by omega)
  · rcases (show i < 2 * n ∨ i = 2 * n ∨ i = 2 * n + 1 by omega) with hi' | rfl | rfl
    · simp only [upd2, if_neg (show ¬ i = 2 * n by omega), if_neg (show ¬ i = 2 * n + 1 by omega)] at h0 hp
      exact h.ap.2.2.2.1 i hi' h0 p hp
    · simp only [upd2, if_true] at hp
      exact hA _ (.inl ⟨p, hp, rfl⟩)
    · simp only [upd2, if_neg (show ¬ 2 * n + 1 = 2 * n by omega), if_true] at hp
      injection hp with hp
      subst hp
      exact nS _ hg2
  · rcases (show i < 2 * n ∨ i = 2 * n ∨ i = 2 * n + 1 by omega) with hi' | rfl | rfl
    · simp only [upd2, if_neg (show ¬ i = 2 * n by omega), if_neg (show ¬ i = 2 * n + 1 by omega)] at h0 hp
      exact h.ap.2.2.2.2 i hi' h0 p hp
    · simp only [upd2, if_true] at hp
      exact hA _ (.inr ⟨p, hp, rfl⟩)
    · simp only [upd2, if_neg (show ¬ 2 * n + 1 = 2 * n by omega), if_true] at hp
      injection hp with hp
      subst hp
      exact nS _ (by show Y.heap.size ≤ h2; omega)
/-- take's memory while the marks are laid. -/
structure Lz (V wr : World) (xo so : Option Addr) (m l z : Nat) (tf fx fs : Nat → Value) : Prop where
  a : Own wr 35 xo m m fx
  b : Own wr 24 so l l fs
  t : wr.rowIs z 57 6 tf
  p : BP (Ab xo so) V wr
theorem Lz.onX {V wr : World} {xo so : Option Addr} {m l z k : Nat} {tf F v fs : Nat → Value} (h : Lz V wr xo so m l z tf (mkf F v k) fs) (hk : k < m) : ∃ g, xo = some ⟨g, 0, none⟩ ∧ (∃ u, wr.cell? ⟨g, k, none⟩ = some u) ∧ wr.frozen? ⟨g, k, none⟩ = false ∧ Lz V (wr.setCell ⟨g, k, none⟩ (v k)) xo so m l z tf (mkf F v (k + 1)) fs := by
  rcases h.a with ⟨_, e, _⟩ | ⟨g, e, _, r⟩
  · omega
  · exact ⟨g, e, ⟨_, r.cell hk⟩, r.frozen k, .inr ⟨g, e, rfl, mkf_step r⟩, h.b.but r (by decide) (But.self g k (v k)), (But.self g k (v k)).row (row_ne h.t r (by decide)) h.t, h.p.trans (BP.but (But.self g k (v k))) fun b _ e' => .inl ⟨_, e, e'⟩⟩
theorem Lz.onS {V wr : World} {xo so : Option Addr} {m l z k : Nat} {tf G v fx : Nat → Value} (h : Lz V wr xo so m l z tf fx (mkf G v k)) (hk : k < l) : ∃ g, so = some ⟨g, 0, none⟩ ∧ (∃ u, wr.cell? ⟨g, k, none⟩ = some u) ∧ wr.frozen? ⟨g, k, none⟩ = false ∧ Lz V (wr.setCell ⟨g, k, none⟩ (v k)) xo so m l z tf fx (mkf G v (k + 1)) := by
  rcases h.b with ⟨_, e, _⟩ | ⟨g, e, _, r⟩
  · omega
  · exact ⟨g, e, ⟨_, r.cell hk⟩, r.frozen k, h.a.but r (by decide) (But.self g k (v k)), .inr ⟨g, e, rfl, mkf_step r⟩, (But.self g k (v k)).row (row_ne h.t r (by decide)) h.t, h.p.trans (BP.but (But.self g k (v k))) fun b _ e' => .inr ⟨_, e, e'⟩⟩
set_option maxHeartbeats 6400000 in
set_option maxRecDepth 100000 in
theorem take_any (S : Nat → Prop) (bb n : Nat) (vw vs : Value) (mu : Int) (gw gs : Nat) (aw av : Nat → Option Addr) (lw ls cw cs : Nat → Nat) (n0 : Int) (xo : Option Addr) (m xc : Nat) (so : Option Addr) (l sc : Nat) (k0 mask e0 : Int) (F G : Nat → Value) (w : World)
    (hb : Bk w S bb n vw vs mu gw gs aw av lw ls cw cs) (hm0 : 0 ≤ mu) (hm1 : mu ≤ 576460752303423488) (hn : n < 4194304) (hm : m ≤ 262144) (hl : l ≤ 16777216) (ow : Own w 35 xo m xc F) (os : Own w 24 so l sc G) (hS : ∀ b, S b → b < w.heap.size) (hA : ∀ b, Ab xo so b → ¬ S b)
    (hE1 : ∀ j, j < 2 * n → 0 < lw j → ∀ p, aw j = some p → ¬ Ab xo so p.block) (hE2 : ∀ j, j < 2 * n → 0 < ls j → ∀ p, av j = some p → ¬ Ab xo so p.block) :
    Calls Try.prog 29 #[.pointer (some ⟨bb, 0, none⟩), td n0 xo m xc so l sc k0 mask e0] w fun e w' => e = .returned (.tuple #[]) ∧ ∃ n' vw' vs' mu' gw' gs' aw' av' lw' ls' cw' cs', Bk w' S bb n' vw' vs' mu' gw' gs' aw' av' lw' ls' cw' cs' ∧ n' ≤ n + 1 ∧ mu' ≤ mu + 50000000 ∧ 0 ≤ mu' ∧ BP (fun b => b = bb ∨ (b = gw ∧ vw ≠ .slice none 0 0) ∨ (b = gs ∧ vs ≠ .slice none 0 0) ∨ Ab xo so b) w w' := by
  have HB := hid1 hb
  have HW := hid1 ow
  have HS := hid1 os
  have HSz := hid1 hS
  have HA := hid1 hA
  have HE1 := hid1 hE1
  have HE2 := hid1 hE2
  have im0 : (0 : Int) ≤ (m : Int) := by omega
  have im1 : (m : Int) ≤ 262144 := by omega
  have il0 : (0 : Int) ≤ (l : Int) := by omega
  have il1 : (l : Int) ≤ 16777216 := by omega
  have exc : m = xc := by
    rcases ow with ⟨_, e1, e2⟩ | ⟨_, _, e, _⟩
    · rw [e1, e2]
    · exact e.symm
  have esc : l = sc := by
    rcases os with ⟨_, e1, e2⟩ | ⟨_, _, e, _⟩
    · rw [e1, e2]
    · exact e.symm
  subst exc esc
  clear hb ow os hS hA hE1 hE2
  go_enter Try.func29, Try.ntmps29
  go_upto_region 1 with fail
  refine gen_world (fun W => Below w.heap.size w W ∧ W.rowIs w.heap.size 57 6 (tdf n0 xo m m so l l k0 mask e0)) ⟨bl_alloc (Below.refl _ _) _, World.rowIs_alloc w _ _ _ (fun i hi => by
    rcases i with _ | _ | _ | _ | _ | _ | i
    all_goals first
      | rfl
      | (simp at hi; omega))⟩ ?_
  rintro W ⟨B0, rW⟩
  obtain ⟨c0, c1, c2, c3, c4, c5⟩ := tdf_cells rW
  have M1 := hid1 (most_same m (by omega))
  have M2 := hid1 (most_same l (by omega))
  have HB0 := hid1 B0
  have HRW := hid1 rW
  clear B0 rW
  refine still_tail 13 (by kernel_rfl) ?_
  simp only [List.take_succ_cons, List.take_zero, List.drop_succ_cons, List.drop_zero]
  repeat still_step
  still_call (M1.out _)
  repeat still_step
  refine wpStill_nil ?_
  go_upto_region 2 with fail
  refine still_tail 10 (by kernel_rfl) ?_
  simp only [List.take_succ_cons, List.take_zero, List.drop_succ_cons, List.drop_zero]
  repeat still_step
  still_call (M2.out _)
  repeat still_step
  refine wpStill_nil ?_
  go_upto_region 3 with fail
  refine gen_world (fun X => Below W.heap.size W X) (by repeat (first | (with_reducible exact Below.refl _ _) | (with_reducible refine Below.drew ?_))) ?_
  intro X hX
  have hbX := (HB.out.below HB0.out).below hX
  have hrX := keepr hX HRW.out
  have HBX := hid1 hbX
  have HRX := hid1 hrX
  have HX0 := hid1 (bl_step HB0.out hX)
  clear hbX hrX hX HRW HB0 c0 c1 c2 c3 c4 c5 M1 M2
  have ix : ((1200 + 16 * m + 2 * l : Nat) : Int) = 1200 + 16 * (m : Int) + 2 * (l : Int) := by omega
  by_cases hov : 33554432 < mu + 400 + (1200 + 16 * (m : Int) + 2 * (l : Int))
  · go_wp2_with (go_at_call 55; refine (over_any bb vw vs mu (1200 + 16 * (m : Int) + 2 * (l : Int)) X hm0 (by omega) (by omega) (by omega) HBX.out.row).mono ?_; rintro e w1 ⟨rfl, hr1, hu1⟩; rw [decide_eq_true hov])
    refine bodyPost_ret (v := .tuple #[]) (by simp [results, Try.results29, go_sem]) rfl ?_
    have hbx := HBX.out
    refine ⟨rfl, n, vw, vs, _, gw, gs, aw, av, lw, ls, cw, cs, hbx.onB hr1 hu1, by omega, by omega, by omega, ((BP.bel HX0.out : BP (fun b => b = bb ∨ (b = gw ∧ vw ≠ .slice none 0 0) ∨ (b = gs ∧ vs ≠ .slice none 0 0) ∨ Ab xo so b) w X).trans (BP.but hu1) fun b _ e => .inl e)⟩
  · have hov' : ¬ 33554432 < mu + 400 + (1200 + 16 * (m : Int) + 2 * (l : Int)) := hov
    go_upto_region 4 with (go_at_call 55; refine (over_any bb vw vs mu (1200 + 16 * (m : Int) + 2 * (l : Int)) X hm0 (by omega) (by omega) (by omega) HBX.out.row).mono ?_; rintro e w1 ⟨rfl, hr1, hu1⟩; rw [decide_eq_false hov])
    obtain ⟨muN, hmu⟩ : ∃ q, q = mu + 400 + (1200 + 16 * (m : Int) + 2 * (l : Int)) := ⟨_, rfl⟩
    rw [← hmu] at hr1
    have hb1 := HBX.out.onB hr1 hu1
    have hP1 : BP (· = bb) w w1 := (BP.bel HX0.out).trans (BP.but hu1) fun b _ e => e
    have ht1 := hu1.row (row_ne HRX.out HBX.out.row (by decide)) HRX.out
    have ow1 := (HW.out.below HX0.out).but HBX.out.row (by decide) hu1
    have os1 := (HS.out.below HX0.out).but HBX.out.row (by decide) hu1
    have hB1 := hid1 hb1
    have HP1 := hid1 hP1
    have HT1 := hid1 ht1
    have HW1 := hid1 (ow1.congr (g := mkf F (fun _ => .int .u64 (1000 + (n : Int))) 0) fun j _ => by simp [mkf])
    have HS1 := hid1 (os1.congr (g := mkf G (fun j => .int .i8 (sgn (2 * n) j)) 0) fun j _ => by simp [mkf])
    clear hb1 hP1 ht1 ow1 os1 hr1 hu1 HBX HRX HX0 HW HS hov hov'
    obtain ⟨V, rfl⟩ : ∃ V, V = w1 := ⟨_, rfl⟩
    obtain ⟨wo, wcp, rfl⟩ : ∃ wo wcp, vw = .slice wo (2 * n) wcp := by
      rcases hB1.out.wl with ⟨e, e0⟩ | ⟨_, _, e, _⟩
      · rw [e0]; exact ⟨_, _, e⟩
      · exact ⟨_, _, e⟩
    obtain ⟨vo, vcp, rfl⟩ : ∃ vo vcp, vs = .slice vo (2 * n) vcp := by
      rcases hB1.out.sl with ⟨e, e0⟩ | ⟨_, _, e, _⟩
      · rw [e0]; exact ⟨_, _, e⟩
      · exact ⟨_, _, e⟩
    have x0 : V.cell? ⟨bb, 0, none⟩ = some (.slice wo (2 * n) wcp) := hB1.out.row.cell (by omega)
    have x1 : V.cell? ⟨bb, 1, none⟩ = some (.slice vo (2 * n) vcp) := hB1.out.row.cell (by omega)
    have in0 : (0 : Int) ≤ (n : Int) := by omega
    have in1 : (n : Int) < 4194304 := by omega
    have in2 : (((2 * n : Nat) : Int)) / 2 = (n : Int) := by omega
    have in3 : ((1000 + n : Nat) : Int) = 1000 + (n : Int) := by omega
    obtain ⟨c0, c1, c2, c3, c4, c5⟩ := tdf_cells HT1.out
    have HZ : Hid (Lz V V xo so m l w.heap.size (tdf n0 xo m m so l l k0 mask e0) (mkf F (fun _ => .int .u64 (1000 + (n : Int))) 0) (mkf G (fun j => .int .i8 (sgn (2 * n) j)) 0)) := hid1 ⟨HW1.out, HS1.out, HT1.out, BP.refl _ _⟩
    clear HT1
    generalize htf : tdf n0 xo m m so l l k0 mask e0 = tf at *
    have htfl : ∀ wr : World, wr.rowIs w.heap.size 57 6 tf → wr.cell? ⟨w.heap.size, 1, none⟩ = some (.slice xo m m) ∧ wr.cell? ⟨w.heap.size, 2, none⟩ = some (.slice so l l) := fun wr h => by
      rw [← htf] at h
      exact ⟨(tdf_cells h).2.1, (tdf_cells h).2.2.1⟩
    have HTF := hid1 htfl
    clear htfl htf
    go_wp2_with fail
    clear c0 c1 c2 c3 c4 c5
    go_loopw [8] (fun i wr => ∃ k : Nat, k ≤ m ∧ i = .int .i64 k ∧ Lz V wr xo so m l w.heap.size tf (mkf F (fun _ => .int .u64 (1000 + (n : Int))) k) (mkf G (fun j => .int .i8 (sgn (2 * n) j)) 0)) (fun i _ => m - (intOf i).toNat)
    case atStart => exact ⟨0, Nat.zero_le _, rfl, HZ.out⟩
    case round =>
      clear HZ
      obtain ⟨k, hk, rfl, hz⟩ := hrel
      have ik0 : (0 : Int) ≤ (k : Int) := by omega
      obtain ⟨c1, c2⟩ := HTF.out _ hz.t
      by_cases hlt : k < m
      · have ik : (k : Int) < (m : Int) := by omega
        obtain ⟨g, rfl, ⟨u, cu⟩, fu, hz1⟩ := hz.onX hlt
        have HZ1 := hid1 hz1
        clear hz hz1
        go_wp2_with fail
        exact ⟨⟨k + 1, by omega, by go_num, HZ1.out⟩, by simp [intOf]; omega⟩
      · have hkc : k = m := by omega
        subst hkc
        have HZ := hid1 hz
        have SG : Hid (∀ j : Nat, j ≤ 33554432 → ∀ w : World, Calls Try.prog 56 #[.int .i64 ((2 * n : Nat) : Int), .int .i64 j] w fun e w' => e = .returned (.int .i8 (sgn (2 * n) j)) ∧ w' = w) := hid1 fun j hj w => sign_any (2 * n) j (by omega) hj w
        clear hz
        go_wp2_with fail
        go_loopw [9] (fun i wr => ∃ j : Nat, j ≤ l ∧ i = .int .i64 j ∧ Lz V wr xo so k l w.heap.size tf (mkf F (fun _ => .int .u64 (1000 + (n : Int))) k) (mkf G (fun j => .int .i8 (sgn (2 * n) j)) j)) (fun i _ => l - (intOf i).toNat)
        case atStart => exact ⟨0, Nat.zero_le _, rfl, HZ.out⟩
        case round =>
          clear HZ c1 c2
          obtain ⟨j, hj, rfl, hz⟩ := hrel
          have ij0 : (0 : Int) ≤ (j : Int) := by omega
          obtain ⟨c1, c2⟩ := HTF.out _ hz.t
          by_cases hjl : j < l
          · have ij : (j : Int) < (l : Int) := by omega
            obtain ⟨g, rfl, ⟨u, cu⟩, fu, hz1⟩ := hz.onS hjl
            have HZ1 := hid1 hz1
            have SG1 := hid1 (SG.out j (by omega))
            clear hz hz1
            go_wp2_with (go_at_call 56; refine (SG1.out _).mono ?_; rintro e w5 ⟨rfl, rfl⟩)
            exact ⟨⟨j + 1, by omega, by go_num, HZ1.out⟩, by simp [intOf]; omega⟩
          · have hjc : j = l := by omega
            subst hjc
            have HZ := hid1 hz
            clear hz
            go_wp2_with fail
            go_loopw [10] (fun i w2 => i = .int .i64 (k : Nat) ∧ w2 = wr) (fun _ _ => 0)
            case atStart => exact ⟨rfl, rfl⟩
            case round =>
              obtain ⟨rfl, ew⟩ := hrel
              subst ew
              go_wp2_with fail
              go_loopw [11] (fun i w2 => i = .int .i64 (j : Nat) ∧ w2 = wr) (fun _ _ => 0)
              case atStart => exact ⟨rfl, rfl⟩
              case round =>
                obtain ⟨rfl, ew⟩ := hrel
                subst ew
                have hz := HZ.out
                obtain ⟨Y, rfl⟩ : ∃ Y, Y = wr := ⟨_, rfl⟩
                have hbY := hB1.out.ab HW1.out HS1.out hz.p HE1.out HE2.out
                have oa : Own Y 35 xo k k (fun _ => .int .u64 (1000 + (n : Int))) := hz.a.congr fun q hq => by simp [mkf, hq]
                have ob : Own Y 24 so j j (fun q => .int .i8 (sgn (2 * n) q)) := hz.b.congr fun q hq => by simp [mkf, hq]
                have x0 : Y.cell? ⟨bb, 0, none⟩ = some (.slice wo (2 * n) wcp) := hbY.row.cell (by omega)
                have f0 := hbY.row.frozen 0
                have hbb := hbY.row.lt
                have hbbn : bb ≠ Y.heap.size := by omega
                have OL := hid1 (fun (X : World) (hX : Below Y.heap.size Y X) => (own_olds (oa.below hX)).2)
                have ON := hid1 (own_olds oa).1
                have OW := hid1 (fun (X : World) (hX : Below Y.heap.size Y X) => (hbY.wl.bp (BP.bel (S := fun _ => False) hX) (.inr fun k => k)).own)
                obtain ⟨gX, hmv, hgX⟩ := hbY.wl.mv
                have MV := hid1 hmv
                have hbX : bb ≠ gX := by
                  rcases hgX with h | ⟨h, _, c, f, r⟩
                  · omega
                  · rw [h]; exact row_ne hbY.row r (by decide)
                have hgXle : gX ≤ Y.heap.size := by
                  rcases hgX with h | ⟨h, _, c, f, r⟩
                  · omega
                  · rw [h]; exact Nat.le_of_lt r.lt
                have HBY := hid1 hbY
                have HOA := hid1 oa
                have HOB := hid1 ob
                have HGX := hid1 hgX
                have HZP := hid1 hz.p
                have HZT := hid1 hz.t
                clear hz hbY oa ob hmv hgX HZ
                obtain ⟨i0, hi, hz0, hz1, hz2⟩ := info_parts info_u64
                obtain ⟨i1, hi1, hz10, hz11, hz12⟩ := info_parts info_u64s
                go_upto_region 22 with fail
                go_cut [] (fun wx => ∃ vw' gw' cw' g2 c2 f2, vw' = .slice (some ⟨gw', 0, none⟩) (2 * n + 2) cw' ∧ wx.rowIs bb 67 3 (bkf vw' (.slice vo (2 * n) vcp) muN) ∧ Wg wx 25 vw' gw' (2 * n + 2) (elW (fun j => .slice (aw j) (lw j) (cw j)) (2 * n) (.slice xo k k) (.slice (some ⟨g2, 0, none⟩) (k + 1) c2)) ∧ wx.rowIs g2 35 c2 f2 ∧ k + 1 ≤ c2 ∧ (∀ q, q < k + 1 → f2 q = .int .u64 (1000 + (n : Int))) ∧ Y.heap.size ≤ g2 ∧ (gw' = gX ∨ Y.heap.size ≤ gw') ∧ BP (fun b => b = bb ∨ b = gX) Y wx)
                case first =>
                  go_region_law (first
                    | (refine step_append_grows rfl (.tmp 118) (.tmp 120) 25 rfl 35 i0 (.int .u64 0) 1 8 und_u64s hi hz0 hz1 hz2 rfl (by decide) xo k k (rowL (fun _ => .int .u64 (1000 + (n : Int))) k) (by go_simp) ON.out (by simp [rowL]) (OL.out _ (by repeat (first | (with_reducible exact Below.refl _ _) | (with_reducible assumption) | (with_reducible refine Below.drew ?_) | (with_reducible refine bl_alloc ?_ _) | (with_reducible refine bl_drewN ?_ _)))) ⟨Y.heap.size, 0, none⟩ 1 1 [.int .u64 (1000 + (n : Int))] (by go_simp) rfl (cell_one_new Y (.int .u64 (1000 + (n : Int))) 35) (fun u hu => by simp at hu; subst hu; rfl) (by omega) (by unfold maxLen; omega) (by omega) ?_; intro v1 y1 hown1 hgrow1; obtain ⟨g2, c2, f2, rfl, hg2, hle2, hmax2, hrow2, hf2⟩ := own_row hown1 (by omega); have by1 : Below Y.heap.size Y y1 := (by refine bl_step ?_ (grown_bel hgrow1); repeat (first | (with_reducible exact Below.refl _ _) | (with_reducible assumption) | (with_reducible refine Below.drew ?_) | (with_reducible refine bl_alloc ?_ _) | (with_reducible refine bl_drewN ?_ _))); have p0 := keepc by1 x0; have pbb : bb < y1.heap.size := Nat.lt_of_lt_of_le hbb by1.size; have pbn : bb ≠ y1.heap.size := (by omega); have hg2Y : Y.heap.size + 1 ≤ g2 := (by simpa using hg2); have hg2X : g2 ≠ gX := (by omega); have HR2 := hid1 hrow2; have HF2 := hid1 hf2; clear hown1 hgrow1 hrow2 hf2)
                    | (refine step_append_own rfl (.tmp 116) (.tmp 122) 50 rfl 0 25 i1 (.slice none 0 0) 1 24 und_wordss hi1 hz10 hz11 hz12 rfl (by decide) (.slice wo (2 * n) wcp) (2 * n) (rowL (fun j => .slice (aw j) (lw j) (cw j)) (2 * n)) (by go_simp) (OW.out _ (by repeat (first | (with_reducible exact Below.refl _ _) | (with_reducible assumption) | (with_reducible refine Below.drew ?_) | (with_reducible refine bl_alloc ?_ _) | (with_reducible refine bl_drewN ?_ _)))) ⟨y1.heap.size, 0, none⟩ 2 2 [.slice xo k k, .slice (some ⟨g2, 0, none⟩) (k + 1) c2] (by go_simp) rfl (cell_two_new y1 _ _ _) (fun u hu => by simp at hu; rcases hu with rfl | rfl <;> rfl) (by unfold maxLen; omega) (by omega) (Nat.zero_le _) ?_; intro v3 y3 hown3 hgrow3 hat3; have hmv3 : Mv Y gX y3 v3 := ((MV.out Y).bel (by repeat (first | (with_reducible exact Below.refl _ _) | (with_reducible assumption) | (with_reducible refine Below.drew ?_) | (with_reducible refine bl_alloc ?_ _) | (with_reducible refine bl_drewN ?_ _)))).app hgrow3 hat3; have hmvA := (MV.out _).app hgrow3 hat3; have r23 := hmvA.but.row hg2X (HR2.out.alloc _); obtain ⟨g3, c3, f3, rfl, _, hle3, hmax3, hrow3, hf3⟩ := own_row hown3 (by omega); have q3 := hmv3.but.row hbX HBY.out.row; have q30 : y3.cell? ⟨bb, 0, none⟩ = some (.slice wo (2 * n) wcp) := q3.cell (by omega); have q3f := q3.frozen 0; have Q3 := hid1 q3; have R23 := hid1 r23; have HM3 := hid1 hmv3; have HR3 := hid1 hrow3; have HF3 := hid1 hf3; clear hown3 hgrow3 hat3 hmv3 hmvA hrow3 hf3 q3 r23))
                  all_goals (refine meet_of (by assumption) ?_; go_meet; refine ⟨_, g3, c3, g2, c2, f2, rfl, (Q3.out.set 0 _).congr fun q hq => ?_, .inr ⟨c3, f3, rfl, hle3, hmax3, HR3.out.setOther (a := ⟨bb, 0, none⟩) (row_ne HR3.out Q3.out (by decide)) _, fun q hq => elW_of hq (HF3.out q hq)⟩, R23.out.setOther (a := ⟨bb, 0, none⟩) (row_ne R23.out Q3.out (by decide)) _, hle2, fun q hq => ?_, by omega, mv_at HM3.out, ((BP.refl (fun b => b = bb ∨ b = gX) Y).trans (BP.but HM3.out.but) fun _ _ e => .inr e).set (.inl (.inl rfl)) _⟩)
                  all_goals first
                    | (rcases (show q = 0 ∨ q = 1 ∨ q = 2 by omega) with rfl | rfl | rfl <;> rfl)
                    | exact mark_of (HF2.out q hq) hq
                case rest =>
                  obtain ⟨vw', gw', cw', g2, c2, f2, rfl, rb2, wl2, rg2, hle2, hf2, hg2, hgw2, hp2⟩ := hcut
                  obtain ⟨Z, rfl⟩ : ∃ Z, Z = wc := ⟨_, rfl⟩
                  have hgo8 : ∀ g T k f, Y.rowIs g T k f → T ≠ 25 → g ≠ gX := fun g T k f hr ht => by
                    rcases HGX.out with h | ⟨h, _, c, f', r⟩
                    · have := hr.lt; omega
                    · rw [h]; exact row_ne hr r ht
                  have ob2 := HOB.out.off hp2 HBY.out.row (by decide) (fun g k f hr => hgo8 _ _ _ _ hr (by decide))
                  have sl2 := HBY.out.sl.off hp2 HBY.out.row (by decide) (fun c f hr => hgo8 _ _ _ _ hr (by decide))
                  have x1 : Z.cell? ⟨bb, 1, none⟩ = some (.slice vo (2 * n) vcp) := rb2.cell (by omega)
                  have f1 := rb2.frozen 1
                  have hbb2 := rb2.lt
                  have hbbn2 : bb ≠ Z.heap.size := by omega
                  have OL2 := hid1 (fun (X : World) (hX : Below Z.heap.size Z X) => (own_olds (ob2.below hX)).2)
                  have ON2 := hid1 (own_olds ob2).1
                  have OW2 := hid1 (fun (X : World) (hX : Below Z.heap.size Z X) => (sl2.bp (BP.bel (S := fun _ => False) hX) (.inr fun k => k)).own)
                  obtain ⟨gZ, hmv2, hgZ⟩ := sl2.mv
                  have MV2 := hid1 hmv2
                  have hbZ : bb ≠ gZ := by
                    rcases hgZ with h | ⟨h, _, c, f, r⟩
                    · omega
                    · rw [h]; exact row_ne rb2 r (by decide)
                  have hgZle : gZ ≤ Z.heap.size := by
                    rcases hgZ with h | ⟨h, _, c, f, r⟩
                    · omega
                    · rw [h]; exact Nat.le_of_lt r.lt
                  have SGl := hid1 (SG.out j (by omega))
                  have HGZ := hid1 hgZ
                  have RB2 := hid1 rb2
                  have WL2 := hid1 wl2
                  have RG2 := hid1 rg2
                  have HF2 := hid1 hf2
                  have HP2 := hid1 hp2
                  have HGO := hid1 hgo8
                  clear ob2 sl2 hmv2 hgZ rb2 wl2 rg2 hf2 hp2 hgo8 x0 f0 OL ON OW MV
                  obtain ⟨i2, hi2, hz20, hz21, hz22⟩ := info_parts info_i8
                  obtain ⟨i3, hi3, hz30, hz31, hz32⟩ := info_parts info_i8sl
                  go_upto_region 23 with fail
                  go_region_law (first
                      | (refine step_append_grows rfl (.tmp 132) (.tmp 137) 23 rfl 24 i2 (.int .i8 0) 1 1 und_i8s hi2 hz20 hz21 hz22 rfl (by decide) so j j (rowL (fun q => .int .i8 (sgn (2 * n) q)) j) (by go_simp) ON2.out (by simp [rowL]) (OL2.out _ (by repeat (first | (with_reducible exact Below.refl _ _) | (with_reducible assumption) | (with_reducible refine Below.drew ?_) | (with_reducible refine bl_alloc ?_ _) | (with_reducible refine bl_drewN ?_ _)))) ⟨Z.heap.size, 0, none⟩ 1 1 [.int .i8 (sgn (2 * n) j)] (by go_simp) rfl (cell_one_new Z (.int .i8 (sgn (2 * n) j)) 24) (fun u hu => by simp at hu; subst hu; rfl) (by omega) (by unfold maxLen; omega) (by omega) ?_; intro v1 y1 hown1 hgrow1; obtain ⟨h2, d2, e2, rfl, hh2, hle4, hmax4, hrow4, hf4⟩ := own_row hown1 (by omega); have by1 : Below Z.heap.size Z y1 := (by refine bl_step ?_ (grown_bel hgrow1); repeat (first | (with_reducible exact Below.refl _ _) | (with_reducible assumption) | (with_reducible refine Below.drew ?_) | (with_reducible refine bl_alloc ?_ _) | (with_reducible refine bl_drewN ?_ _))); have p0 := keepc by1 x1; have pbb : bb < y1.heap.size := Nat.lt_of_lt_of_le hbb2 by1.size; have pbn : bb ≠ y1.heap.size := (by omega); have hh2Z : Z.heap.size + 1 ≤ h2 := (by simpa using hh2); have hh2g : h2 ≠ gZ := (by omega); have HR4 := hid1 hrow4; have HF4 := hid1 hf4; clear hown1 hgrow1 hrow4 hf4)
                      | (refine step_append_own rfl (.tmp 130) (.tmp 139) 65 rfl 0 23 i3 (.slice none 0 0) 1 24 und_signss hi3 hz30 hz31 hz32 rfl (by decide) (.slice vo (2 * n) vcp) (2 * n) (rowL (fun j => .slice (av j) (ls j) (cs j)) (2 * n)) (by go_simp) (OW2.out _ (by repeat (first | (with_reducible exact Below.refl _ _) | (with_reducible assumption) | (with_reducible refine Below.drew ?_) | (with_reducible refine bl_alloc ?_ _) | (with_reducible refine bl_drewN ?_ _)))) ⟨y1.heap.size, 0, none⟩ 2 2 [.slice so j j, .slice (some ⟨h2, 0, none⟩) (j + 1) d2] (by go_simp) rfl (cell_two_new y1 _ _ _) (fun u hu => by simp at hu; rcases hu with rfl | rfl <;> rfl) (by unfold maxLen; omega) (by omega) (Nat.zero_le _) ?_; intro v3 y3 hown3 hgrow3 hat3; have hmv3 : Mv Z gZ y3 v3 := ((MV2.out Z).bel (by repeat (first | (with_reducible exact Below.refl _ _) | (with_reducible assumption) | (with_reducible refine Below.drew ?_) | (with_reducible refine bl_alloc ?_ _) | (with_reducible refine bl_drewN ?_ _)))).app hgrow3 hat3; have hmvA := (MV2.out _).app hgrow3 hat3; have r23 := hmvA.but.row hh2g (HR4.out.alloc _); obtain ⟨g3, c3, f3, rfl, _, hle3, hmax3, hrow3, hf3⟩ := own_row hown3 (by omega); have q3 := hmv3.but.row hbZ RB2.out; have q30 : y3.cell? ⟨bb, 1, none⟩ = some (.slice vo (2 * n) vcp) := q3.cell (by omega); have q3f := q3.frozen 1; have Q3 := hid1 q3; have R23 := hid1 r23; have HM3 := hid1 hmv3; have HR3 := hid1 hrow3; have HF3 := hid1 hf3; clear hown3 hgrow3 hat3 hmv3 hmvA hrow3 hf3 q3 r23)
                      | (go_simp; go_at_call 56; refine (SGl.out _).mono ?_; rintro e w9 ⟨rfl, rfl⟩))
                  all_goals
                    refine bodyPost_end (v := .tuple #[]) (by simp [results, go_sem]) rfl ?_
                    have hrF := (Q3.out.set 1 (.slice (some ⟨g3, 0, none⟩) (2 * n + 2) c3)).congr (g := bkf (.slice (some ⟨gw', 0, none⟩) (2 * n + 2) cw') (.slice (some ⟨g3, 0, none⟩) (2 * n + 2) c3) muN) fun q hq => by
                      rcases (show q = 0 ∨ q = 1 ∨ q = 2 by omega) with rfl | rfl | rfl <;> rfl
                    have hp3 : BP (fun b => b = bb ∨ b = gZ) Z (y3.setCell ⟨bb, 1, none⟩ (.slice (some ⟨g3, 0, none⟩) (2 * n + 2) c3)) := ((BP.refl (fun b => b = bb ∨ b = gZ) Z).trans (BP.but HM3.out.but) fun _ _ e => .inr e).set (.inl (.inl rfl)) _
                    have hszY : w.heap.size ≤ Y.heap.size := Nat.le_trans HP1.out.size HZP.out.size
                    have hszZ : w.heap.size ≤ Z.heap.size := Nat.le_trans hszY HP2.out.size
                    refine ⟨rfl, n + 1, _, _, muN, gw', g3, _, _, _, _, _, _, Bk.more HBY.out (fun b hb => Nat.lt_of_lt_of_le (HSz.out b hb) hszY) HA.out hn hm hl HOA.out HOB.out HGX.out HP2.out RB2.out HGZ.out hp3 WL2.out RG2.out hle2 HF2.out hg2 hgw2 hrF (.inr ⟨c3, f3, rfl, hle3, hmax3, HR3.out.setOther (a := ⟨bb, 1, none⟩) (row_ne HR3.out Q3.out (by decide)) _, fun q hq => elW_of hq (HF3.out q hq)⟩) (R23.out.setOther (a := ⟨bb, 1, none⟩) (row_ne R23.out Q3.out (by decide)) _) hle4 (fun q hq => mark_at (v := (fun q => .int .i8 (sgn (2 * n) q))) (HF4.out q hq) hq) (by omega) (mv_at HM3.out), by omega, by omega, by omega, ?_⟩
                    refine ((((BP.refl _ w).trans HP1.out fun b _ e => .inl e).trans HZP.out fun b _ e => .inr (.inr (.inr e))).trans HP2.out fun b hb e => ?_).trans hp3 fun b hb e => ?_
                    · rcases e with e | e
                      · exact .inl e
                      · rcases HGX.out with e1 | ⟨e1, e2, _⟩
                        · omega
                        · exact .inr (.inl ⟨e.trans e1, e2⟩)
                    · rcases e with e | e
                      · exact .inl e
                      · rcases HGZ.out with e1 | ⟨e1, e2, _⟩
                        · omega
                        · exact .inr (.inr (.inl ⟨e.trans e1, e2⟩))
end Go.Proofs.Yteghelmbibpohaa
