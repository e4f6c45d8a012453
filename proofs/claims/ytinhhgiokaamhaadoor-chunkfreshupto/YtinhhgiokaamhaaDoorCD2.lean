/- CHUNKDAMAGE. -/
import Derived.Test.YtinhhgiokaamhaaDoorCD1
import Derived.Test.YtinhhgiokaamhaaDoorCF1
import Derived.Test.YtinhhgiokaamhaaDoorCM3
namespace Go.Proofs.YtinhhgiokaamhaaDoor
open Go.RowKit

theorem wp_copyn8 {w : World} {ops : Array Oper} {rest : List Oper} {o : Oper} {a : Act} {Q : Exit → Act → World → Prop} (hgd : o.guard = none) (s x : Operand)
    (ho : o.op = .call { callee := .builtin .append, args := #[s, x], argTypes := #[23, 23] }) (hs : a.eval s = .slice none 0 0) (ao : Option Addr) (m c : Nat) (b : List Nat) (hx : a.eval x = .slice ao m c) (hm : b.length = m) (hb : By w ao b) (hsz : m ≤ 1099511627776)
    (h : ∀ v' w', w'.ownsRow w.heap.size 5 1 v' m (u8s b) → w.grownBy w' none → wpList Tryd.prog ops Q rest (a.put o.dst v') w') : wpList Tryd.prog ops Q (o :: rest) a w := by
  obtain ⟨v', w', hr, own, gr⟩ := run_copy8 w o.type ao m c b hm hb hsz
  exact wp_of_run hgd s x _ ho _ _ hs hx hr (h v' w' own gr)
theorem wr_id {x : Int} (h1 : -9223372036854775808 ≤ x) (h2 : x ≤ 9223372036854775807) : wrap64 x = x := by unfold wrap64; omega
theorem iw_id {x : Int} (h1 : -9223372036854775808 ≤ x) (h2 : x ≤ 9223372036854775807) : IntKind.i64.wrap x = x := by simp [IntKind.wrap, IntKind.signed, IntKind.bits]; omega
theorem u8s_set (l : List Nat) (i x : Nat) : (u8s l).set i (.int .u8 (x : Int)) = u8s (l.set i x) := by simp [u8s, List.map_set]
theorem u8_get {l : List Nat} {i x : Nat} (h : l[i]? = some x) : (u8s l)[i]? = some (.int .u8 (x : Int)) := by simp [u8s, h]
theorem own_pos {W : World} {b T s n : Nat} {v : Value} {xs : List Value} (h : W.ownsRow b T s v n xs) (hn : 0 < n) : ∃ g c, v = .slice (some ⟨g, 0, none⟩) n c ∧ b ≤ g ∧ n ≤ c ∧ c ≤ maxLen := by
  rcases h.2 with ⟨_, h0⟩ | ⟨g, c, _, e, h1, _, h2, h3, _⟩
  · omega
  · exact ⟨g, c, e, h1, h2, h3⟩
theorem own_set8 {W : World} {b g n c i x : Nat} {l : List Nat} (h : W.ownsRow b 5 1 (.slice (some ⟨g, 0, none⟩) n c) n (u8s l)) : (W.setCell ⟨g, i, none⟩ (.int .u8 (x : Int))).ownsRow b 5 1 (.slice (some ⟨g, 0, none⟩) n c) n (u8s (l.set i x)) := by
  have := (h.stored i (.int .u8 (x : Int))).1
  rwa [u8s_set] at this
theorem set_split {l : List Nat} {i a : Nat} (h : l[i]? = some a) (x : Nat) : l = l.take i ++ a :: l.drop (i + 1) ∧ l.set i x = l.take i ++ x :: l.drop (i + 1) := by
  have hi : i < l.length := by
    refine Classical.byContradiction fun hn => ?_
    rw [List.getElem?_eq_none (by omega)] at h
    exact absurd h (by simp)
  have ha : l[i] = a := by rw [List.getElem?_eq_getElem hi] at h; injection h
  refine ⟨?_, List.set_eq_take_append_cons_drop.trans (by rw [if_pos hi])⟩
  rw [← ha]
  conv => lhs; rw [← List.take_append_drop i l, List.drop_eq_getElem_cons hi]
theorem dm_byte {l : List Nat} {i a x : Nat} (h : l[i]? = some a) (hx : a ≠ x) : Dm l (l.set i x) := by
  obtain ⟨h1, h2⟩ := set_split h x
  exact .inl ⟨_, a, x, _, h1, h2, hx⟩
theorem dm_swap {l : List Nat} {i a b : Nat} (h : l[i]? = some a) (h' : l[i + 1]? = some b) (hx : a ≠ b) : Dm l ((l.set i b).set (i + 1) a) := by
  obtain ⟨h1, h2⟩ := set_split h b
  have hd : l.drop (i + 1) = b :: l.drop (i + 2) := by
    have hi : i + 1 < l.length := by
      refine Classical.byContradiction fun hn => ?_
      rw [List.getElem?_eq_none (by omega)] at h'
      exact absurd h' (by simp)
    rw [List.drop_eq_getElem_cons hi]
    rw [List.getElem?_eq_getElem hi] at h'
    injection h' with h'
    rw [h']
  rw [hd] at h1 h2
  refine .inr ⟨l.take i, a, b, l.drop (i + 2), h1, ?_, hx⟩
  have hl : (l.take i).length = i := by
    rw [List.length_take]
    have : i < l.length := by
      refine Classical.byContradiction fun hn => ?_
      rw [List.getElem?_eq_none (by omega)] at h
      exact absurd h (by simp)
    omega
  rw [h2, List.set_append_right _ _ (by omega), hl, show i + 1 - i = 1 by omega]
  rfl
theorem fw_len (cs : List Ck) : (fw cs).length ≤ 20 := by unfold fw; rw [List.length_map, List.length_take]; omega
theorem fw_ok {cs : List Ck} (h : ∀ c ∈ cs, c.Ok) : ∀ c ∈ fw cs, c.Ok ∧ c.2.length ≤ 200 := fun c hc => by
  unfold fw at hc
  obtain ⟨d, hd, rfl⟩ := List.mem_map.1 hc
  exact sh_ok (h d (List.mem_of_mem_take hd))
theorem sz_bd {N : Nat} : ∀ {l : List Ck}, (∀ c ∈ l, c.2.length ≤ N) → 12 ≤ szC l ∧ szC l ≤ 12 + (16 + N) * l.length
  | [], _ => by simp [szC]
  | c :: r, h => by
    have h1 := h c (List.mem_cons_self ..)
    have h2 := sz_bd (l := r) fun d hd => h d (List.mem_cons_of_mem _ hd)
    simp only [szC, List.length_cons, Nat.mul_add, Nat.mul_one]
    omega
theorem xor_ne {a t : Nat} (h : t ≠ 0) : a ≠ a ^^^ t := fun e => h (by
  have h2 : a ^^^ a = a ^^^ (a ^^^ t) := by rw [← e]
  rw [Nat.xor_self, ← Nat.xor_assoc, Nat.xor_self, Nat.zero_xor] at h2
  exact h2.symm)
theorem set_at1 {l : List Nat} {j k x y : Nat} (h : ¬ k = j) (hj : j < l.length) : ((l.set j x).set k y)[j]? = some x := by
  rw [List.getElem?_set_ne h, List.getElem?_set_self hj]
theorem set_at2 {l : List Nat} {j k x y : Nat} (hk : k < l.length) : ((l.set j x).set k y)[k]? = some y := by
  rw [List.getElem?_set_self (by simpa using hk)]
theorem set_lt {l : List Nat} {i x : Nat} (h : ∀ y ∈ l, y < 256) (hx : x < 256) : ∀ y ∈ l.set i x, y < 256 := fun y hy => by
  rcases List.mem_or_eq_of_mem_set hy with h1 | h1
  · exact h y h1
  · omega
theorem set_id {l : List Nat} {i x : Nat} (h : l[i]? = some x) : l.set i x = l := by
  obtain ⟨h1, h2⟩ := set_split h x
  rw [h2, ← h1]
theorem set_same {l : List Nat} {j k x : Nat} (h : l[j]? = some x) (h' : l[k]? = some x) : (l.set j x).set k x = l := by rw [set_id h, set_id h']
/-- Read of bytes that are spoilt. -/
theorem read_spoilt (m : Nat) (ao : Option Addr) (n cap : Nat) (cs : List Ck) (l : List Nat) (w : World) (LD : Laid w) (hm : m < 4294967296) (hn : cs.length ≤ 1024) (hs : szC cs = n) (hs2 : n ≤ 16777216) (hc1 : n ≤ cap) (hc2 : cap ≤ 9223372036854775807) (h : ∀ c ∈ cs, c.Ok ∧ c.2.length < 4294967296) (hd : Dm (cont m cs) l) (hb : By w ao l) :
    Calls Tryd.prog 13 #[.int .u32 m, .slice ao n cap] w fun x w' => x = .returned (.tuple #[.slice none 0 0, .int .i64 81]) ∧ Below w.heap.size w w' := by
  have e := read_dm hm hn (by omega) h hb.byte hd
  have hl : l.length = n := by rw [hd.len, cont_len, hs]
  have RD := read_any m ao cap l w LD hb (by omega) hc2
  rw [hl] at RD
  refine RD.mono ?_
  rintro x w' ⟨-, h0, hB⟩
  rw [e] at h0
  exact ⟨h0 (by decide), hB⟩
set_option maxHeartbeats 3200000 in
set_option maxRecDepth 100000 in
theorem damage_pos (m : Nat) (hm : m < 4294967296) (lo : Option Addr) (cl : Nat) (cs : List Ck) (A : Nat) (hA : A ≤ 9223372036854775807) (t : Nat) (ht : t < 256) (w : World) (LD : Laid w) (hn : cs.length ≤ 9223372036854775807) (h : Cw w lo cs) (hcap : Caps w lo cs.length) :
    Calls Tryd.prog 4 #[.int .u32 m, .slice lo cs.length cl, .int .i64 A, .int .u8 t] w fun e w' => e = .returned (.bool true) ∧ Below w.heap.size w w' := by
  have LL := hid1 LD
  have lp := LD.pos
  have FO := hid1 (fw_ok h.ok)
  have FB := hid1 (fun W (hW : Below w.heap.size w W) => few_any lo cl cs W hn (h.keep hW) (fun gl ol j ao n cap e hj hc => by
    obtain ⟨gl', ol', ao', cap', e', c1, c2, _⟩ := h.at hj
    rw [e] at e'
    injection e' with e'
    injection e' with e1 e2
    subst e1 e2
    have h1 := keepc hW c2
    rw [h1] at hc
    injection hc with hc
    injection hc with h2 h3 h4
    subst h2 h3 h4
    exact hcap gl ol j ao' _ cap' e hj c2))
  obtain ⟨L, eL⟩ : ∃ L, cs.length = L := ⟨_, rfl⟩
  rw [eL] at FB ⊢
  obtain ⟨F, eF⟩ : ∃ F, fw cs = F := ⟨_, rfl⟩
  rw [eF] at FB FO
  have fl := fw_len cs
  rw [eF] at fl
  have sz := sz_bd (N := 200) fun c hc => (FO.out c hc).2
  obtain ⟨n, en⟩ : ∃ n, szC F = n := ⟨_, rfl⟩
  rw [en] at sz
  have sz1 : 12 ≤ n := sz.1
  have sz2 : n ≤ 4332 := by have := sz.2; omega
  have F4 : Hid (∀ c ∈ F, c.Ok ∧ c.2.length < 4294967296) := hid1 fun c hc => ⟨(FO.out c hc).1, by have := (FO.out c hc).2; omega⟩
  have EN := hid1 en
  clear LD h hcap eL eF en sz hn
  go_enter Tryd.func4, Tryd.ntmps4
  go_wp2_with fail
  refine (begun_any w LL.out).mono ?_
  rintro e w1 ⟨rfl, B1⟩
  go_wp2_with fail
  refine (FB.out w1 B1).mono ?_
  rintro e w2 ⟨lo', cp, rfl, c2, b2⟩
  have B2 := bl_step B1 b2
  clear B1 b2 FB
  obtain ⟨fn, efn⟩ : ∃ k, F.length = k := ⟨_, rfl⟩
  rw [efn]
  have EFN := hid1 efn
  have fl2 : fn ≤ 20 := by omega
  clear efn
  go_wp2_with fail
  refine (write_ok m lo' fn cp n F w2 (LL.out.on B2) c2 EFN.out (by omega) EN.out (by omega)).mono ?_
  rintro e w3 ⟨gb, rfl, own3, y3, b3⟩
  have B3 := bl_step B2 b3
  have zb := (own3.lt gb rfl).2
  clear own3
  have Y3 := hid1 y3
  clear c2 b3 y3 B2
  have n0 : ¬ (n : Int) = 0 := by omega
  have n1 : ¬ (n : Int) < 12 := by omega
  have nz : ¬ n = 0 := by omega
  obtain ⟨i, ei⟩ : ∃ i, A % n = i := ⟨_, rfl⟩
  have hi : i < n := by rw [← ei]; exact Nat.mod_lt _ (by omega)
  have ER : Hid ((A : Int) % (n : Int) = (i : Int)) := hid1 (by rw [← ei]; omega)
  obtain ⟨j, ej⟩ : ∃ j, A % (n - 1) = j := ⟨_, rfl⟩
  have hj : j < n - 1 := by rw [← ej]; exact Nat.mod_lt _ (by omega)
  have ERN : Hid ((A : Int) % ((n : Int) - 1) = (j : Int)) := hid1 (by
    rw [← ej, show (n : Int) - 1 = ((n - 1 : Nat) : Int) by omega]; omega)
  clear ei ej
  have nz1 : ¬ (n : Int) - 1 = 0 := by omega
  obtain ⟨l, el⟩ : ∃ l, cont m F = l := ⟨_, rfl⟩
  have ll : l.length = n := by rw [← el, cont_len, EN.out]
  rw [el] at Y3
  have EL := hid1 el
  obtain ⟨_, _, xi, e1, gi, ci, bi⟩ := Y3.out.at (k := i) (by omega)
  obtain ⟨_, _, xj, e2, gj, cj, bj⟩ := Y3.out.at (k := j) (by omega)
  obtain ⟨k, ek⟩ : ∃ k, j + 1 = k := ⟨_, rfl⟩
  obtain ⟨_, _, xk, e3, gk, ck, bk⟩ := Y3.out.at (k := k) (by omega)
  have kn : k < n := by omega
  have jn : j < n := by omega
  have jk : ¬ k = j := by omega
  have jk2 : ¬ j = k := by omega
  have KK3 : Hid (IntKind.i64.wrap ((j : Int) + 1) = (k : Int)) := hid1 ((iw_id (by omega) (by omega)).trans (by omega))
  have kk0 : (0 : Int) ≤ (k : Int) := by omega
  have kk1 : (k : Int) < (n : Int) := by omega
  have WK : Hid (IntKind.i64.wrap (k : Int) = (k : Int)) := hid1 (iw_id (by omega) (by omega))
  have WJ : Hid (IntKind.i64.wrap (j : Int) = (j : Int)) := hid1 (iw_id (by omega) (by omega))
  have EK := hid1 ek
  clear ek
  clear e1 e2 e3 ci cj ck el
  have GI := hid1 gi
  have GJ := hid1 gj
  have GK := hid1 gk
  have hby := hid1 Y3.out.byte
  clear gi gj gk
  have hx : bits .xor .u8 (xi : Int) (t : Int) = ((xi ^^^ t : Nat) : Int) := u8_xor_nat xi t bi ht
  have hxl : xi ^^^ t < 256 := Nat.xor_lt_two_pow (n := 8) bi ht
  have ii0 : (0 : Int) ≤ (i : Int) := by omega
  have ii1 : (i : Int) < (n : Int) := by omega
  have LL1 := hid1 ll
  clear ll
  go_upto_region 9 with fail
  rw [ER.out]
  go_wp2_with (first
    | (at_builtin; refine wp_copyn8 rfl (.const (.slice none 0 0)) _ rfl (by go_simp) (some ⟨gb, 0, none⟩) n n l (by go_simp) LL1.out Y3.out (by omega) ?_; intro v4 w4 own4 gr4; obtain ⟨g4, q4, rfl, hg4, hq4, hq5⟩ := own_pos own4 (by omega); have f4 := own4.frozenAt i; have c4 : w4.cell? ⟨g4, i, none⟩ = some (.int .u8 (xi : Int)) := (by rw [own4.cellAt i (by omega)]; simp [u8s, GI.out]); have z4 := (own4.lt g4 rfl).2; have O4 := hid1 own4; have B4 := bl_step B3 (grown_bel gr4); have BB4 := hid1 (grown_bel gr4); clear own4 gr4))
  have RD : Hid (∀ W, Laid W → By W (some ⟨g4, 0, none⟩) (l.set i (xi ^^^ t)) → t ≠ 0 → Calls Tryd.prog 13 #[.int .u32 m, .slice (some ⟨g4, 0, none⟩) n q4] W fun x w' => x = .returned (.tuple #[.slice none 0 0, .int .i64 81]) ∧ Below W.heap.size W w') := hid1 fun W hL hB h0 =>
    read_spoilt m (some ⟨g4, 0, none⟩) n q4 F _ W hL hm (by omega) EN.out (by omega) hq4 hq5 F4.out (by rw [EL.out]; exact dm_byte GI.out (xor_ne h0)) hB
  have SB : Hid (∀ x ∈ l.set i (xi ^^^ t), x < 256) := hid1 fun x hx => by
    rcases List.mem_or_eq_of_mem_set hx with h | h
    · exact hby.out x h
    · omega
  have hgb : gb ≠ g4 := by omega
  refine gen_calls (fun W => Below w.heap.size w W ∧ By W (some ⟨g4, 0, none⟩) (l.set i (xi ^^^ t)) ∧ By W (some ⟨gb, 0, none⟩) l) ⟨bl_set B4 (by have := B3.size; omega) _, own_by (own_set8 O4.out) SB.out, (Y3.out.keep BB4.out).bp bp_set1 (fun p hp _ he => hgb (by injection hp with hp; subst hp; exact he))⟩ ?_
  rintro W5 ⟨B5, y5, yb⟩
  have jj0 : (0 : Int) ≤ (j : Int) := by omega
  have jj1 : (j : Int) < (n : Int) := by omega
  by_cases h0 : t = 0
  · subst h0
    have e0 : l.set i (xi ^^^ 0) = l := by
      rw [Nat.xor_zero]
      obtain ⟨h1, h2⟩ := set_split GI.out xi
      rw [h2, ← h1]
    rw [e0, ← EL.out] at y5
    refine (read_good m (some ⟨g4, 0, none⟩) n q4 F W5 (LL.out.on B5) hm (by omega) EN.out (by omega) hq4 hq5 (fun c hc => (F4.out c hc).1.1) y5).mono ?_
    rintro e w6 ⟨lo6, cp6, gs6, rfl, -, b6⟩
    have bK := bl_step B5 b6
    have YB := hid1 (yb.keep b6)
    clear y5 yb b6 B5 B4 c4 f4 z4 O4 BB4 RD SB
    go_upto_region 15 with fail
    rw [ERN.out]
    go_upto_region 16 with ((at_builtin; refine wp_copyn8 rfl (.const (.slice none 0 0)) _ rfl (by go_simp) (some ⟨gb, 0, none⟩) n n l (by go_simp) LL1.out YB.out (by omega) ?_; intro v7 w7 own7 gr7; obtain ⟨g7, q7, rfl, hg7, hq7, hq8⟩ := own_pos own7 (by omega); have O7 := hid1 own7; have G7 := hid1 gr7; clear own7 gr7))
    have f70 := O7.out.frozenAt j
    have f71 := O7.out.frozenAt k
    have c70 := O7.out.cellAt j (by rw [Nat.mul_one]; exact jn)
    have c71 := O7.out.cellAt k (by rw [Nat.mul_one]; exact kn)
    rw [u8_get GJ.out] at c70
    rw [u8_get GK.out] at c71
    have z7 := (O7.out.lt g7 rfl).2
    have B7 := hid1 (bl_step bK (grown_bel G7.out))
    have zg7 : w.heap.size ≤ g7 := by have := bK.size; omega
    have O8 := hid1 (own_set8 (i := k) (x := xj) (own_set8 (i := j) (x := xk) O7.out))
    have kk3 := KK3.out
    have kk5 := WK.out
    have kk6 := WJ.out
    go_region
    clear kk3 kk5 kk6 c70 c71 f70 f71 bK
    obtain ⟨S, eS⟩ : ∃ S, (l.set j xk).set k xj = S := ⟨_, rfl⟩
    have sj : S[j]? = some xk := by rw [← eS]; exact set_at1 jk (by rw [LL1.out]; exact jn)
    have sk : S[k]? = some xj := by rw [← eS]; exact set_at2 (by rw [LL1.out]; exact kn)
    have sb : Hid (∀ x ∈ S, x < 256) := hid1 (by rw [← eS]; exact set_lt (set_lt hby.out bk) bj)
    rw [eS] at O8
    have ES := hid1 eS
    clear eS
    refine gen_then (fun W => Below w.heap.size w W ∧ W.ownsRow w6.heap.size 5 1 (.slice (some ⟨g7, 0, none⟩) n q7) n (u8s S)) ⟨by first | exact (bl_set (bl_set B7.out zg7 _) zg7 _).drew | exact bl_set (bl_set (B7.out.drew) zg7 _) zg7 _, by first | exact O8.out | exact O8.out.drew⟩ ?_
    clear O8 O7 B7 G7
    rintro W8 ⟨B8, o8⟩
    have O8 := hid1 o8
    have Y8 := hid1 (own_by o8 sb.out)
    clear o8
    go_wp2_with fail
    by_cases hjk : xj = xk
    · subst hjk
      have e0 : S = l := by rw [← ES.out]; exact set_same GJ.out GK.out
      have Y8' : By W8 (some ⟨g7, 0, none⟩) (cont m F) := by rw [EL.out, ← e0]; exact Y8.out
      refine (read_good m (some ⟨g7, 0, none⟩) n q7 F W8 (LL.out.on B8) hm (by omega) EN.out (by omega) hq7 hq8 (fun c hc => (F4.out c hc).1.1) Y8').mono ?_
      rintro e w9 ⟨lo9, cp9, gs9, rfl, -, b9⟩
      have B9 := bl_step B8 b9
      have o9 := own_keep (S := fun _ => False) (BP.bel b9) O8.out (fun _ _ h => h)
      have c90 := o9.cellAt j (by rw [Nat.mul_one]; exact jn)
      have c91 := o9.cellAt k (by rw [Nat.mul_one]; exact kn)
      rw [u8_get sj] at c90
      rw [u8_get sk] at c91
      clear b9 Y8' B8 O8 Y8 o9
      have kk3 := KK3.out
      have kk5 := WK.out
      have kk6 := WJ.out
      go_upto_region 18 with fail
      go_quiet (fail)
      go_wp2
      go_ret
      exact ⟨rfl, bl_drewN B9 _⟩
    · have hd : Dm (cont m F) S := by
        rw [EL.out, ← ES.out, ← EK.out]
        refine dm_swap GJ.out ?_ hjk
        rw [EK.out]; exact GK.out
      have HJK : ¬ (xk : Int) = (xj : Int) := by omega
      refine (read_spoilt m (some ⟨g7, 0, none⟩) n q7 F S W8 (LL.out.on B8) hm (by omega) EN.out (by omega) hq7 hq8 F4.out hd Y8.out).mono ?_
      rintro e w9 ⟨rfl, b9⟩
      have B9 := bl_step B8 b9
      have o9 := own_keep (S := fun _ => False) (BP.bel b9) O8.out (fun _ _ h => h)
      have c90 := o9.cellAt j (by rw [Nat.mul_one]; exact jn)
      have c91 := o9.cellAt k (by rw [Nat.mul_one]; exact kn)
      rw [u8_get sj] at c90
      rw [u8_get sk] at c91
      clear b9 B8 O8 Y8 o9 hd
      have kk3 := KK3.out
      have kk5 := WK.out
      have kk6 := WJ.out
      go_upto_region 18 with fail
      go_quiet (fail)
      go_wp2
      go_ret
      exact ⟨rfl, bl_drewN B9 _⟩
  · have h0' : ¬ (t : Int) = 0 := by omega
    refine (RD.out W5 (LL.out.on B5) y5 h0).mono ?_
    rintro e w6 ⟨rfl, b6⟩
    have bK := bl_step B5 b6
    have YB := hid1 (yb.keep b6)
    clear y5 yb b6 B5 B4 c4 f4 z4 O4 BB4 RD SB
    go_upto_region 15 with fail
    rw [ERN.out]
    go_upto_region 16 with ((at_builtin; refine wp_copyn8 rfl (.const (.slice none 0 0)) _ rfl (by go_simp) (some ⟨gb, 0, none⟩) n n l (by go_simp) LL1.out YB.out (by omega) ?_; intro v7 w7 own7 gr7; obtain ⟨g7, q7, rfl, hg7, hq7, hq8⟩ := own_pos own7 (by omega); have O7 := hid1 own7; have G7 := hid1 gr7; clear own7 gr7))
    have f70 := O7.out.frozenAt j
    have f71 := O7.out.frozenAt k
    have c70 := O7.out.cellAt j (by rw [Nat.mul_one]; exact jn)
    have c71 := O7.out.cellAt k (by rw [Nat.mul_one]; exact kn)
    rw [u8_get GJ.out] at c70
    rw [u8_get GK.out] at c71
    have z7 := (O7.out.lt g7 rfl).2
    have B7 := hid1 (bl_step bK (grown_bel G7.out))
    have zg7 : w.heap.size ≤ g7 := by have := bK.size; omega
    have O8 := hid1 (own_set8 (i := k) (x := xj) (own_set8 (i := j) (x := xk) O7.out))
    have kk3 := KK3.out
    have kk5 := WK.out
    have kk6 := WJ.out
    go_region
    clear kk3 kk5 kk6 c70 c71 f70 f71 bK
    obtain ⟨S, eS⟩ : ∃ S, (l.set j xk).set k xj = S := ⟨_, rfl⟩
    have sj : S[j]? = some xk := by rw [← eS]; exact set_at1 jk (by rw [LL1.out]; exact jn)
    have sk : S[k]? = some xj := by rw [← eS]; exact set_at2 (by rw [LL1.out]; exact kn)
    have sb : Hid (∀ x ∈ S, x < 256) := hid1 (by rw [← eS]; exact set_lt (set_lt hby.out bk) bj)
    rw [eS] at O8
    have ES := hid1 eS
    clear eS
    refine gen_then (fun W => Below w.heap.size w W ∧ W.ownsRow w6.heap.size 5 1 (.slice (some ⟨g7, 0, none⟩) n q7) n (u8s S)) ⟨by first | exact (bl_set (bl_set B7.out zg7 _) zg7 _).drew | exact bl_set (bl_set (B7.out.drew) zg7 _) zg7 _, by first | exact O8.out | exact O8.out.drew⟩ ?_
    clear O8 O7 B7 G7
    rintro W8 ⟨B8, o8⟩
    have O8 := hid1 o8
    have Y8 := hid1 (own_by o8 sb.out)
    clear o8
    go_wp2_with fail
    by_cases hjk : xj = xk
    · subst hjk
      have e0 : S = l := by rw [← ES.out]; exact set_same GJ.out GK.out
      have Y8' : By W8 (some ⟨g7, 0, none⟩) (cont m F) := by rw [EL.out, ← e0]; exact Y8.out
      refine (read_good m (some ⟨g7, 0, none⟩) n q7 F W8 (LL.out.on B8) hm (by omega) EN.out (by omega) hq7 hq8 (fun c hc => (F4.out c hc).1.1) Y8').mono ?_
      rintro e w9 ⟨lo9, cp9, gs9, rfl, -, b9⟩
      have B9 := bl_step B8 b9
      have o9 := own_keep (S := fun _ => False) (BP.bel b9) O8.out (fun _ _ h => h)
      have c90 := o9.cellAt j (by rw [Nat.mul_one]; exact jn)
      have c91 := o9.cellAt k (by rw [Nat.mul_one]; exact kn)
      rw [u8_get sj] at c90
      rw [u8_get sk] at c91
      clear b9 Y8' B8 O8 Y8 o9
      have kk3 := KK3.out
      have kk5 := WK.out
      have kk6 := WJ.out
      go_upto_region 18 with fail
      go_quiet (fail)
      go_wp2
      go_ret
      exact ⟨rfl, bl_drewN B9 _⟩
    · have hd : Dm (cont m F) S := by
        rw [EL.out, ← ES.out, ← EK.out]
        refine dm_swap GJ.out ?_ hjk
        rw [EK.out]; exact GK.out
      have HJK : ¬ (xk : Int) = (xj : Int) := by omega
      refine (read_spoilt m (some ⟨g7, 0, none⟩) n q7 F S W8 (LL.out.on B8) hm (by omega) EN.out (by omega) hq7 hq8 F4.out hd Y8.out).mono ?_
      rintro e w9 ⟨rfl, b9⟩
      have B9 := bl_step B8 b9
      have o9 := own_keep (S := fun _ => False) (BP.bel b9) O8.out (fun _ _ h => h)
      have c90 := o9.cellAt j (by rw [Nat.mul_one]; exact jn)
      have c91 := o9.cellAt k (by rw [Nat.mul_one]; exact kn)
      rw [u8_get sj] at c90
      rw [u8_get sk] at c91
      clear b9 B8 O8 Y8 o9 hd
      have kk3 := KK3.out
      have kk5 := WK.out
      have kk6 := WJ.out
      go_upto_region 18 with fail
      go_quiet (fail)
      go_wp2
      go_ret
      exact ⟨rfl, bl_drewN B9 _⟩
set_option maxHeartbeats 3200000 in
set_option maxRecDepth 100000 in
theorem damage_neg (m : Nat) (hm : m < 4294967296) (lo : Option Addr) (cl : Nat) (cs : List Ck) (x : Int) (hx0 : x < 0) (A : Nat) (hA : A ≤ 9223372036854775807) (hxA : -1 - x = (A : Int)) (t : Nat) (ht : t < 256) (w : World) (LD : Laid w) (hn : cs.length ≤ 9223372036854775807) (h : Cw w lo cs) (hcap : Caps w lo cs.length) :
    Calls Tryd.prog 4 #[.int .u32 m, .slice lo cs.length cl, .int .i64 x, .int .u8 t] w fun e w' => e = .returned (.bool true) ∧ Below w.heap.size w w' := by
  have LL := hid1 LD
  have lp := LD.pos
  have FO := hid1 (fw_ok h.ok)
  have FB := hid1 (fun W (hW : Below w.heap.size w W) => few_any lo cl cs W hn (h.keep hW) (fun gl ol j ao n cap e hj hc => by
    obtain ⟨gl', ol', ao', cap', e', c1, c2, _⟩ := h.at hj
    rw [e] at e'
    injection e' with e'
    injection e' with e1 e2
    subst e1 e2
    have h1 := keepc hW c2
    rw [h1] at hc
    injection hc with hc
    injection hc with h2 h3 h4
    subst h2 h3 h4
    exact hcap gl ol j ao' _ cap' e hj c2))
  obtain ⟨L, eL⟩ : ∃ L, cs.length = L := ⟨_, rfl⟩
  rw [eL] at FB ⊢
  obtain ⟨F, eF⟩ : ∃ F, fw cs = F := ⟨_, rfl⟩
  rw [eF] at FB FO
  have fl := fw_len cs
  rw [eF] at fl
  have sz := sz_bd (N := 200) fun c hc => (FO.out c hc).2
  obtain ⟨n, en⟩ : ∃ n, szC F = n := ⟨_, rfl⟩
  rw [en] at sz
  have sz1 : 12 ≤ n := sz.1
  have sz2 : n ≤ 4332 := by have := sz.2; omega
  have F4 : Hid (∀ c ∈ F, c.Ok ∧ c.2.length < 4294967296) := hid1 fun c hc => ⟨(FO.out c hc).1, by have := (FO.out c hc).2; omega⟩
  have EN := hid1 en
  have HXW : Hid (wrap64 (-1 - x) = (A : Int)) := hid1 ((wr_id (by omega) (by omega)).trans hxA)
  clear LD h hcap eL eF en sz hn hxA
  go_enter Tryd.func4, Tryd.ntmps4
  go_wp2_with fail
  refine (begun_any w LL.out).mono ?_
  rintro e w1 ⟨rfl, B1⟩
  go_wp2_with fail
  refine (FB.out w1 B1).mono ?_
  rintro e w2 ⟨lo', cp, rfl, c2, b2⟩
  have B2 := bl_step B1 b2
  clear B1 b2 FB
  obtain ⟨fn, efn⟩ : ∃ k, F.length = k := ⟨_, rfl⟩
  rw [efn]
  have EFN := hid1 efn
  have fl2 : fn ≤ 20 := by omega
  clear efn
  go_wp2_with fail
  refine (write_ok m lo' fn cp n F w2 (LL.out.on B2) c2 EFN.out (by omega) EN.out (by omega)).mono ?_
  rintro e w3 ⟨gb, rfl, own3, y3, b3⟩
  have B3 := bl_step B2 b3
  have zb := (own3.lt gb rfl).2
  clear own3
  have Y3 := hid1 y3
  clear c2 b3 y3 B2
  have n0 : ¬ (n : Int) = 0 := by omega
  have n1 : ¬ (n : Int) < 12 := by omega
  have nz : ¬ n = 0 := by omega
  obtain ⟨i, ei⟩ : ∃ i, A % n = i := ⟨_, rfl⟩
  have hi : i < n := by rw [← ei]; exact Nat.mod_lt _ (by omega)
  have ER : Hid ((A : Int) % (n : Int) = (i : Int)) := hid1 (by rw [← ei]; omega)
  obtain ⟨j, ej⟩ : ∃ j, A % (n - 1) = j := ⟨_, rfl⟩
  have hj : j < n - 1 := by rw [← ej]; exact Nat.mod_lt _ (by omega)
  have ERN : Hid ((A : Int) % ((n : Int) - 1) = (j : Int)) := hid1 (by
    rw [← ej, show (n : Int) - 1 = ((n - 1 : Nat) : Int) by omega]; omega)
  clear ei ej
  have nz1 : ¬ (n : Int) - 1 = 0 := by omega
  obtain ⟨l, el⟩ : ∃ l, cont m F = l := ⟨_, rfl⟩
  have ll : l.length = n := by rw [← el, cont_len, EN.out]
  rw [el] at Y3
  have EL := hid1 el
  obtain ⟨_, _, xi, e1, gi, ci, bi⟩ := Y3.out.at (k := i) (by omega)
  obtain ⟨_, _, xj, e2, gj, cj, bj⟩ := Y3.out.at (k := j) (by omega)
  obtain ⟨k, ek⟩ : ∃ k, j + 1 = k := ⟨_, rfl⟩
  obtain ⟨_, _, xk, e3, gk, ck, bk⟩ := Y3.out.at (k := k) (by omega)
  have kn : k < n := by omega
  have jn : j < n := by omega
  have jk : ¬ k = j := by omega
  have jk2 : ¬ j = k := by omega
  have KK3 : Hid (IntKind.i64.wrap ((j : Int) + 1) = (k : Int)) := hid1 ((iw_id (by omega) (by omega)).trans (by omega))
  have kk0 : (0 : Int) ≤ (k : Int) := by omega
  have kk1 : (k : Int) < (n : Int) := by omega
  have WK : Hid (IntKind.i64.wrap (k : Int) = (k : Int)) := hid1 (iw_id (by omega) (by omega))
  have WJ : Hid (IntKind.i64.wrap (j : Int) = (j : Int)) := hid1 (iw_id (by omega) (by omega))
  have EK := hid1 ek
  clear ek
  clear e1 e2 e3 ci cj ck el
  have GI := hid1 gi
  have GJ := hid1 gj
  have GK := hid1 gk
  have hby := hid1 Y3.out.byte
  clear gi gj gk
  have hx : bits .xor .u8 (xi : Int) (t : Int) = ((xi ^^^ t : Nat) : Int) := u8_xor_nat xi t bi ht
  have hxl : xi ^^^ t < 256 := Nat.xor_lt_two_pow (n := 8) bi ht
  have ii0 : (0 : Int) ≤ (i : Int) := by omega
  have ii1 : (i : Int) < (n : Int) := by omega
  have LL1 := hid1 ll
  clear ll
  go_upto_region 8 with fail
  rw [HXW.out]
  go_upto_region 9 with fail
  rw [ER.out]
  go_wp2_with (first
    | (at_builtin; refine wp_copyn8 rfl (.const (.slice none 0 0)) _ rfl (by go_simp) (some ⟨gb, 0, none⟩) n n l (by go_simp) LL1.out Y3.out (by omega) ?_; intro v4 w4 own4 gr4; obtain ⟨g4, q4, rfl, hg4, hq4, hq5⟩ := own_pos own4 (by omega); have f4 := own4.frozenAt i; have c4 : w4.cell? ⟨g4, i, none⟩ = some (.int .u8 (xi : Int)) := (by rw [own4.cellAt i (by omega)]; simp [u8s, GI.out]); have z4 := (own4.lt g4 rfl).2; have O4 := hid1 own4; have B4 := bl_step B3 (grown_bel gr4); have BB4 := hid1 (grown_bel gr4); clear own4 gr4))
  have RD : Hid (∀ W, Laid W → By W (some ⟨g4, 0, none⟩) (l.set i (xi ^^^ t)) → t ≠ 0 → Calls Tryd.prog 13 #[.int .u32 m, .slice (some ⟨g4, 0, none⟩) n q4] W fun x w' => x = .returned (.tuple #[.slice none 0 0, .int .i64 81]) ∧ Below W.heap.size W w') := hid1 fun W hL hB h0 =>
    read_spoilt m (some ⟨g4, 0, none⟩) n q4 F _ W hL hm (by omega) EN.out (by omega) hq4 hq5 F4.out (by rw [EL.out]; exact dm_byte GI.out (xor_ne h0)) hB
  have SB : Hid (∀ x ∈ l.set i (xi ^^^ t), x < 256) := hid1 fun x hx => by
    rcases List.mem_or_eq_of_mem_set hx with h | h
    · exact hby.out x h
    · omega
  have hgb : gb ≠ g4 := by omega
  refine gen_calls (fun W => Below w.heap.size w W ∧ By W (some ⟨g4, 0, none⟩) (l.set i (xi ^^^ t)) ∧ By W (some ⟨gb, 0, none⟩) l) ⟨bl_set B4 (by have := B3.size; omega) _, own_by (own_set8 O4.out) SB.out, (Y3.out.keep BB4.out).bp bp_set1 (fun p hp _ he => hgb (by injection hp with hp; subst hp; exact he))⟩ ?_
  rintro W5 ⟨B5, y5, yb⟩
  have jj0 : (0 : Int) ≤ (j : Int) := by omega
  have jj1 : (j : Int) < (n : Int) := by omega
  by_cases h0 : t = 0
  · subst h0
    have e0 : l.set i (xi ^^^ 0) = l := by
      rw [Nat.xor_zero]
      obtain ⟨h1, h2⟩ := set_split GI.out xi
      rw [h2, ← h1]
    rw [e0, ← EL.out] at y5
    refine (read_good m (some ⟨g4, 0, none⟩) n q4 F W5 (LL.out.on B5) hm (by omega) EN.out (by omega) hq4 hq5 (fun c hc => (F4.out c hc).1.1) y5).mono ?_
    rintro e w6 ⟨lo6, cp6, gs6, rfl, -, b6⟩
    have bK := bl_step B5 b6
    have YB := hid1 (yb.keep b6)
    clear y5 yb b6 B5 B4 c4 f4 z4 O4 BB4 RD SB
    go_upto_region 15 with fail
    rw [ERN.out]
    go_upto_region 16 with ((at_builtin; refine wp_copyn8 rfl (.const (.slice none 0 0)) _ rfl (by go_simp) (some ⟨gb, 0, none⟩) n n l (by go_simp) LL1.out YB.out (by omega) ?_; intro v7 w7 own7 gr7; obtain ⟨g7, q7, rfl, hg7, hq7, hq8⟩ := own_pos own7 (by omega); have O7 := hid1 own7; have G7 := hid1 gr7; clear own7 gr7))
    have f70 := O7.out.frozenAt j
    have f71 := O7.out.frozenAt k
    have c70 := O7.out.cellAt j (by rw [Nat.mul_one]; exact jn)
    have c71 := O7.out.cellAt k (by rw [Nat.mul_one]; exact kn)
    rw [u8_get GJ.out] at c70
    rw [u8_get GK.out] at c71
    have z7 := (O7.out.lt g7 rfl).2
    have B7 := hid1 (bl_step bK (grown_bel G7.out))
    have zg7 : w.heap.size ≤ g7 := by have := bK.size; omega
    have O8 := hid1 (own_set8 (i := k) (x := xj) (own_set8 (i := j) (x := xk) O7.out))
    have kk3 := KK3.out
    have kk5 := WK.out
    have kk6 := WJ.out
    go_region
    clear kk3 kk5 kk6 c70 c71 f70 f71 bK
    obtain ⟨S, eS⟩ : ∃ S, (l.set j xk).set k xj = S := ⟨_, rfl⟩
    have sj : S[j]? = some xk := by rw [← eS]; exact set_at1 jk (by rw [LL1.out]; exact jn)
    have sk : S[k]? = some xj := by rw [← eS]; exact set_at2 (by rw [LL1.out]; exact kn)
    have sb : Hid (∀ x ∈ S, x < 256) := hid1 (by rw [← eS]; exact set_lt (set_lt hby.out bk) bj)
    rw [eS] at O8
    have ES := hid1 eS
    clear eS
    refine gen_then (fun W => Below w.heap.size w W ∧ W.ownsRow w6.heap.size 5 1 (.slice (some ⟨g7, 0, none⟩) n q7) n (u8s S)) ⟨by first | exact (bl_set (bl_set B7.out zg7 _) zg7 _).drew | exact bl_set (bl_set (B7.out.drew) zg7 _) zg7 _, by first | exact O8.out | exact O8.out.drew⟩ ?_
    clear O8 O7 B7 G7
    rintro W8 ⟨B8, o8⟩
    have O8 := hid1 o8
    have Y8 := hid1 (own_by o8 sb.out)
    clear o8
    go_wp2_with fail
    by_cases hjk : xj = xk
    · subst hjk
      have e0 : S = l := by rw [← ES.out]; exact set_same GJ.out GK.out
      have Y8' : By W8 (some ⟨g7, 0, none⟩) (cont m F) := by rw [EL.out, ← e0]; exact Y8.out
      refine (read_good m (some ⟨g7, 0, none⟩) n q7 F W8 (LL.out.on B8) hm (by omega) EN.out (by omega) hq7 hq8 (fun c hc => (F4.out c hc).1.1) Y8').mono ?_
      rintro e w9 ⟨lo9, cp9, gs9, rfl, -, b9⟩
      have B9 := bl_step B8 b9
      have o9 := own_keep (S := fun _ => False) (BP.bel b9) O8.out (fun _ _ h => h)
      have c90 := o9.cellAt j (by rw [Nat.mul_one]; exact jn)
      have c91 := o9.cellAt k (by rw [Nat.mul_one]; exact kn)
      rw [u8_get sj] at c90
      rw [u8_get sk] at c91
      clear b9 Y8' B8 O8 Y8 o9
      have kk3 := KK3.out
      have kk5 := WK.out
      have kk6 := WJ.out
      go_upto_region 18 with fail
      go_quiet (fail)
      go_wp2
      go_ret
      exact ⟨rfl, bl_drewN B9 _⟩
    · have hd : Dm (cont m F) S := by
        rw [EL.out, ← ES.out, ← EK.out]
        refine dm_swap GJ.out ?_ hjk
        rw [EK.out]; exact GK.out
      have HJK : ¬ (xk : Int) = (xj : Int) := by omega
      refine (read_spoilt m (some ⟨g7, 0, none⟩) n q7 F S W8 (LL.out.on B8) hm (by omega) EN.out (by omega) hq7 hq8 F4.out hd Y8.out).mono ?_
      rintro e w9 ⟨rfl, b9⟩
      have B9 := bl_step B8 b9
      have o9 := own_keep (S := fun _ => False) (BP.bel b9) O8.out (fun _ _ h => h)
      have c90 := o9.cellAt j (by rw [Nat.mul_one]; exact jn)
      have c91 := o9.cellAt k (by rw [Nat.mul_one]; exact kn)
      rw [u8_get sj] at c90
      rw [u8_get sk] at c91
      clear b9 B8 O8 Y8 o9 hd
      have kk3 := KK3.out
      have kk5 := WK.out
      have kk6 := WJ.out
      go_upto_region 18 with fail
      go_quiet (fail)
      go_wp2
      go_ret
      exact ⟨rfl, bl_drewN B9 _⟩
  · have h0' : ¬ (t : Int) = 0 := by omega
    refine (RD.out W5 (LL.out.on B5) y5 h0).mono ?_
    rintro e w6 ⟨rfl, b6⟩
    have bK := bl_step B5 b6
    have YB := hid1 (yb.keep b6)
    clear y5 yb b6 B5 B4 c4 f4 z4 O4 BB4 RD SB
    go_upto_region 15 with fail
    rw [ERN.out]
    go_upto_region 16 with ((at_builtin; refine wp_copyn8 rfl (.const (.slice none 0 0)) _ rfl (by go_simp) (some ⟨gb, 0, none⟩) n n l (by go_simp) LL1.out YB.out (by omega) ?_; intro v7 w7 own7 gr7; obtain ⟨g7, q7, rfl, hg7, hq7, hq8⟩ := own_pos own7 (by omega); have O7 := hid1 own7; have G7 := hid1 gr7; clear own7 gr7))
    have f70 := O7.out.frozenAt j
    have f71 := O7.out.frozenAt k
    have c70 := O7.out.cellAt j (by rw [Nat.mul_one]; exact jn)
    have c71 := O7.out.cellAt k (by rw [Nat.mul_one]; exact kn)
    rw [u8_get GJ.out] at c70
    rw [u8_get GK.out] at c71
    have z7 := (O7.out.lt g7 rfl).2
    have B7 := hid1 (bl_step bK (grown_bel G7.out))
    have zg7 : w.heap.size ≤ g7 := by have := bK.size; omega
    have O8 := hid1 (own_set8 (i := k) (x := xj) (own_set8 (i := j) (x := xk) O7.out))
    have kk3 := KK3.out
    have kk5 := WK.out
    have kk6 := WJ.out
    go_region
    clear kk3 kk5 kk6 c70 c71 f70 f71 bK
    obtain ⟨S, eS⟩ : ∃ S, (l.set j xk).set k xj = S := ⟨_, rfl⟩
    have sj : S[j]? = some xk := by rw [← eS]; exact set_at1 jk (by rw [LL1.out]; exact jn)
    have sk : S[k]? = some xj := by rw [← eS]; exact set_at2 (by rw [LL1.out]; exact kn)
    have sb : Hid (∀ x ∈ S, x < 256) := hid1 (by rw [← eS]; exact set_lt (set_lt hby.out bk) bj)
    rw [eS] at O8
    have ES := hid1 eS
    clear eS
    refine gen_then (fun W => Below w.heap.size w W ∧ W.ownsRow w6.heap.size 5 1 (.slice (some ⟨g7, 0, none⟩) n q7) n (u8s S)) ⟨by first | exact (bl_set (bl_set B7.out zg7 _) zg7 _).drew | exact bl_set (bl_set (B7.out.drew) zg7 _) zg7 _, by first | exact O8.out | exact O8.out.drew⟩ ?_
    clear O8 O7 B7 G7
    rintro W8 ⟨B8, o8⟩
    have O8 := hid1 o8
    have Y8 := hid1 (own_by o8 sb.out)
    clear o8
    go_wp2_with fail
    by_cases hjk : xj = xk
    · subst hjk
      have e0 : S = l := by rw [← ES.out]; exact set_same GJ.out GK.out
      have Y8' : By W8 (some ⟨g7, 0, none⟩) (cont m F) := by rw [EL.out, ← e0]; exact Y8.out
      refine (read_good m (some ⟨g7, 0, none⟩) n q7 F W8 (LL.out.on B8) hm (by omega) EN.out (by omega) hq7 hq8 (fun c hc => (F4.out c hc).1.1) Y8').mono ?_
      rintro e w9 ⟨lo9, cp9, gs9, rfl, -, b9⟩
      have B9 := bl_step B8 b9
      have o9 := own_keep (S := fun _ => False) (BP.bel b9) O8.out (fun _ _ h => h)
      have c90 := o9.cellAt j (by rw [Nat.mul_one]; exact jn)
      have c91 := o9.cellAt k (by rw [Nat.mul_one]; exact kn)
      rw [u8_get sj] at c90
      rw [u8_get sk] at c91
      clear b9 Y8' B8 O8 Y8 o9
      have kk3 := KK3.out
      have kk5 := WK.out
      have kk6 := WJ.out
      go_upto_region 18 with fail
      go_quiet (fail)
      go_wp2
      go_ret
      exact ⟨rfl, bl_drewN B9 _⟩
    · have hd : Dm (cont m F) S := by
        rw [EL.out, ← ES.out, ← EK.out]
        refine dm_swap GJ.out ?_ hjk
        rw [EK.out]; exact GK.out
      have HJK : ¬ (xk : Int) = (xj : Int) := by omega
      refine (read_spoilt m (some ⟨g7, 0, none⟩) n q7 F S W8 (LL.out.on B8) hm (by omega) EN.out (by omega) hq7 hq8 F4.out hd Y8.out).mono ?_
      rintro e w9 ⟨rfl, b9⟩
      have B9 := bl_step B8 b9
      have o9 := own_keep (S := fun _ => False) (BP.bel b9) O8.out (fun _ _ h => h)
      have c90 := o9.cellAt j (by rw [Nat.mul_one]; exact jn)
      have c91 := o9.cellAt k (by rw [Nat.mul_one]; exact kn)
      rw [u8_get sj] at c90
      rw [u8_get sk] at c91
      clear b9 B8 O8 Y8 o9 hd
      have kk3 := KK3.out
      have kk5 := WK.out
      have kk6 := WJ.out
      go_upto_region 18 with fail
      go_quiet (fail)
      go_wp2
      go_ret
      exact ⟨rfl, bl_drewN B9 _⟩
theorem damage_any (m : Nat) (hm : m < 4294967296) (lo : Option Addr) (cl : Nat) (cs : List Ck) (x : Int) (hx1 : -9223372036854775808 ≤ x) (hx2 : x ≤ 9223372036854775807) (t : Nat) (ht : t < 256) (w : World) (LD : Laid w) (hn : cs.length ≤ 9223372036854775807) (h : Cw w lo cs) (hcap : Caps w lo cs.length) :
    Calls Tryd.prog 4 #[.int .u32 m, .slice lo cs.length cl, .int .i64 x, .int .u8 t] w fun e w' => e = .returned (.bool true) ∧ Below w.heap.size w w' := by
  by_cases h0 : x < 0
  · obtain ⟨A, hA⟩ := Int.eq_ofNat_of_zero_le (show 0 ≤ -1 - x by omega)
    exact damage_neg m hm lo cl cs x h0 A (by omega) hA t ht w LD hn h hcap
  · obtain ⟨A, rfl⟩ := Int.eq_ofNat_of_zero_le (show 0 ≤ x by omega)
    exact damage_pos m hm lo cl cs A (by omega) t ht w LD hn h hcap
end Go.Proofs.YtinhhgiokaamhaaDoor
