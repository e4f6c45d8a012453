/- CHUNKDAMAGE. -/
import Derived.Test.YtbpglkhgggokcaaDoorCD1
import Derived.Test.YtbpglkhgggokcaaDoorCF1
import Derived.Test.YtbpglkhgggokcaaDoorCM3
namespace Go.Proofs.YtbpglkhgggokcaaDoor
open Go.RowKit

theorem wp_copyn8 {w : World} {ops : Array Oper} {rest : List Oper} {o : Oper} {a : Act} {Q : Exit → Act → World → Prop} (hgd : o.guard = none) (s x : Operand)
    (ho : o.op = .call { callee := .builtin .append, args := #[s, x], argTypes := #[25, 25] }) (hs : a.eval s = .slice none 0 0) (ao : Option Addr) (m c : Nat) (b : List Nat) (hx : a.eval x = .slice ao m c) (hm : b.length = m) (hb : By w ao b) (hsz : m ≤ 1099511627776)
    (h : ∀ v' w', w'.ownsRow w.heap.size 5 1 v' m (u8s b) → w.grownBy w' none → wpList Tryd.prog ops Q rest (a.put o.dst v') w') : wpList Tryd.prog ops Q (o :: rest) a w := by
  obtain ⟨v', w', hr, own, gr⟩ := run_copy8 w o.type ao m c b hm hb hsz
  exact wp_of_run hgd s x _ ho _ _ hs hx hr (h v' w' own gr)
theorem wr_id {x : Int} (h1 : -9223372036854775808 ≤ x) (h2 : x ≤ 9223372036854775807) : wrap64 x = x := by unfold wrap64; omega
theorem iw_id {x : Int} (h1 : -9223372036854775808 ≤ x) (h2 : x ≤ 9223372036854775807) : IntKind.i64.wrap x = x := by simp [IntKind.wrap, IntKind.signed, IntKind.bits]; omega
theorem u8s_set (l : List Nat) (i x : Nat) : (u8s l).set i (.int .u8 (x : Int)) = u8s (l.set i x) := by simp [u8s, List.map_set]
theorem u8_get {l : List Nat} {i x : Nat} (h : l[i]? = some x) : (u8s l)[i]? = some (.int .u8 (x : Int)) := by simp [u8s, h]
theorem own_pos {W : World} {b T s n : Nat} {v : Value} {xs : List Value} (h : W.ownsRow b T s v n xs) (hn : 0 < n) : ∃ g c, v = .slice (some ⟨g, 0, none⟩) n c ∧ b ≤ g ∧ n ≤ c ∧ c ≤ maxLen := by
  rcases h.2 with ⟨_, h0⟩ | ⟨g, c, _, e, h1, _, h2, h3, _⟩
  · omega
  · exact ⟨g, c, e, h1, h2, h3⟩
theorem own_set8 {W : World} {b g n c i x : Nat} {l : List Nat} (h : W.ownsRow b 5 1 (.slice (some ⟨g, 0, none⟩) n c) n (u8s l)) : (W.setCell ⟨g, i, none⟩ (.int .u8 (x : Int))).ownsRow b 5 1 (.slice (some ⟨g, 0, none⟩) n c) n (u8s (l.set i x)) := by
  have := (h.stored i (.int .u8 (x : Int))).1
  rwa [u8s_set] at this
theorem set_split {l : List Nat} {i a : Nat} (h : l[i]? = some a) (x : Nat) : l = l.take i ++ a :: l.drop (i + 1) ∧ l.set i x = l.take i ++ x :: l.drop (i + 1) := by
  have hi : i < l.length := by
    refine Classical.byContradiction fun hn => ?_
    rw [List.getElem?_eq_none (by omega)] at h
    exact absurd h (by simp)
  have ha : l[i] = a := by rw [List.getElem?_eq_getElem hi] at h; injection h
  refine ⟨?_, List.set_eq_take_append_cons_drop.trans (by rw [if_pos hi])⟩
  rw [← ha]
  conv => lhs; rw [← List.take_append_drop i l, List.drop_eq_getElem_cons hi]
theorem dm_byte {l : List Nat} {i a x : Nat} (h : l[i]? = some a) (hx : a ≠ x) : Dm l (l.set i x) := by
  obtain ⟨h1, h2⟩ := set_split h x
  exact .inl ⟨_, a, x, _, h1, h2, hx⟩
theorem dm_swap {l : List Nat} {i a b : Nat} (h : l[i]? = some a) (h' : l[i + 1]? = some b) (hx : a ≠ b) : Dm l ((l.set i b).set (i + 1) a) := by
  obtain ⟨h1, h2⟩ := set_split h b
  have hd : l.drop (i + 1) = b :: l.drop (i + 2) := by
    have hi : i + 1 < l.length := by
      refine Classical.byContradiction fun hn => ?_
      rw [List.getElem?_eq_none (by omega)] at h'
      exact absurd h' (by simp)
    rw [List.drop_eq_getElem_cons hi]
    rw [List.getElem?_eq_getElem hi] at h'
    injection h' with h'
    rw [h']
  rw [hd] at h1 h2
  refine .inr ⟨l.take i, a, b, l.drop (i + 2), h1, ?_, hx⟩
  have hl : (l.take i).length = i := by
    rw [List.length_take]
    have : i < l.length := by
      refine Classical.byContradiction fun hn => ?_
      rw [List.getElem?_eq_none (by omega)] at h
      exact absurd h (by simp)
    omega
  rw [h2, List.set_append_right _ _ (by omega), hl, show i + 1 - i = 1 by omega]
  rfl
theorem fw_len (cs : List Ck) : (fw cs).length ≤ 20 := by unfold fw; rw [List.length_map, List.length_take]; omega
theorem fw_ok {cs : List Ck} (h : ∀ c ∈ cs, c.Ok) : ∀ c ∈ fw cs, c.Ok ∧ c.2.length ≤ 200 := fun c hc => by
  unfold fw at hc
  obtain ⟨d, hd, rfl⟩ := List.mem_map.1 hc
  exact sh_ok (h d (List.mem_of_mem_take hd))
theorem sz_bd {N : Nat} : ∀ {l : List Ck}, (∀ c ∈ l, c.2.length ≤ N) → 12 ≤ szC l ∧ szC l ≤ 12 + (16 + N) * l.length
  | [], _ => by simp [szC]
  | c :: r, h => by
    have h1 := h c (List.mem_cons_self ..)
    have h2 := sz_bd (l := r) fun d hd => h d (List.mem_cons_of_mem _ hd)
    simp only [szC, List.length_cons, Nat.mul_add, Nat.mul_one]
    omega
theorem xor_ne {a t : Nat} (h : t ≠ 0) : a ≠ a ^^^ t := fun e => h (by
  have h2 : a ^^^ a = a ^^^ (a ^^^ t) := by rw [← e]
  rw [Nat.xor_self, ← Nat.xor_assoc, Nat.xor_self, Nat.zero_xor] at h2
  exact h2.symm)
theorem set_at1 {l : List Nat} {j k x y : Nat} (h : ¬ k = j) (hj : j < l.length) : ((l.set j x).set k y)[j]? = some x := by
  rw [List.getElem?_set_ne h, List.getElem?_set_self hj]
theorem set_at2 {l : List Nat} {j k x y : Nat} (hk : k < l.length) : ((l.set j x).set k y)[k]? = some y := by
  rw [List.getElem?_set_self (by simpa using hk)]
theorem set_lt {l : List Nat} {i x : Nat} (h : ∀ y ∈ l, y < 256) (hx : x < 256) : ∀ y ∈ l.set i x, y < 256 := fun y hy => by
  rcases List.mem_or_eq_of_mem_set hy with h1 | h1
  · exact h y h1
  · omega
theorem set_id {l : List Nat} {i x : Nat} (h : l[i]? = some x) : l.set i x = l := by
  obtain ⟨h1, h2⟩ := set_split h x
  rw [h2, ← h1]
theorem set_same {l : List Nat} {j k x : Nat} (h : l[j]? = some x) (h' : l[k]? = some x) : (l.set j x).set k x = l := by rw [set_id h, set_id h']
/-- Read of bytes that are spoilt. -/
theorem read_spoilt (m : Nat) (ao : Option Addr) (n cap : Nat) (cs : List Ck) (l : List Nat) (w : World) (LD : Laid w) (hm : m < 4294967296) (hn : cs.length ≤ 1024) (hs : szC cs = n) (hs2 : n ≤ 16777216) (hc1 : n ≤ cap) (hc2 : cap ≤ 9223372036854775807) (h : ∀ c ∈ cs, c.Ok ∧ c.2.length < 4294967296) (hd : Dm (cont m cs) l) (hb : By w ao l) :
    Calls Tryd.prog 9 #[.int .u32 m, .slice ao n cap] w fun x w' => x = .returned (.tuple #[.slice none 0 0, .int .i64 81]) ∧ Below w.heap.size w w' := by
  have e := read_dm hm hn (by omega) h hb.byte hd
  have hl : l.length = n := by rw [hd.len, cont_len, hs]
  have RD := read_any m ao cap l w LD hb (by omega) hc2
  rw [hl] at RD
  refine RD.mono ?_
  rintro x w' ⟨-, h0, hB⟩
  rw [e] at h0
  exact ⟨h0 (by decide), hB⟩
end Go.Proofs.YtbpglkhgggokcaaDoor
