/- CHUNKFORM. -/
import Derived.Test.YtbpglkhgggokcaaDoorCD2
import Derived.Test.YtbpglkhgggokcaaDoorCM4
namespace Go.Proofs.YtbpglkhgggokcaaDoor
open Go.RowKit

/-- Read of a front of a container. -/
theorem read_cut (m : Nat) (ao : Option Addr) (i cap : Nat) (cs : List Ck) (w : World) (LD : Laid w) (hm : m < 4294967296) (hn : cs.length ≤ 1024) (hs : szC cs ≤ 16777216) (hc : ∀ c ∈ cs, c.1 < 4294967296 ∧ c.2.length < 4294967296) (hi : i < szC cs) (hc1 : i ≤ cap) (hc2 : cap ≤ 9223372036854775807) (hb : By w ao ((cont m cs).take i)) :
    Calls Tryd.prog 9 #[.int .u32 m, .slice ao i cap] w fun x w' => x = .returned (.tuple #[.slice none 0 0, .int .i64 80]) ∧ Below w.heap.size w w' := by
  have e := read_front hm hn hs hc hi
  have hl : ((cont m cs).take i).length = i := by rw [List.length_take, cont_len]; omega
  have RD := read_any m ao cap _ w LD hb (by omega) hc2
  rw [hl] at RD
  refine RD.mono ?_
  rintro x w' ⟨-, h0, hB⟩
  rw [e] at h0
  exact ⟨h0 (by decide), hB⟩
/-- Read of a container with bytes behind it, or of another magic. -/
theorem read_tag (m m' : Nat) (ao : Option Addr) (n cap : Nat) (cs : List Ck) (r : List Nat) (w : World) (LD : Laid w) (hm : m < 4294967296) (hn : cs.length ≤ 1024) (hs : szC cs + r.length = n) (hs2 : n ≤ 16777216) (hc : ∀ c ∈ cs, c.1 < 4294967296 ∧ c.2.length < 4294967296) (hx : m ≠ m' ∨ r ≠ []) (hc1 : n ≤ cap) (hc2 : cap ≤ 9223372036854775807) (hb : By w ao (cont m cs ++ r)) :
    Calls Tryd.prog 9 #[.int .u32 m', .slice ao n cap] w fun x w' => x = .returned (.tuple #[.slice none 0 0, .int .i64 82]) ∧ Below w.heap.size w w' := by
  have e : readE m' (cont m cs ++ r) = 82 := by
    rw [(read_app r hm hn hc m').1, if_neg (by omega)]
    rcases hx with hx | hx
    · rw [if_neg hx]
    · rw [if_neg hx]
      split <;> rfl
  have hl : (cont m cs ++ r).length = n := by rw [List.length_append, cont_len, hs]
  have RD := read_any m' ao cap _ w LD hb (by omega) hc2
  rw [hl] at RD
  refine RD.mono ?_
  rintro x w' ⟨-, h0, hB⟩
  rw [e] at h0
  exact ⟨h0 (by decide), hB⟩
theorem wp_app8 {w : World} {ops : Array Oper} {rest : List Oper} {o : Oper} {a : Act} {Q : Exit → Act → World → Prop} (hgd : o.guard = none) (s x : Operand)
    (ho : o.op = .call { callee := .builtin .append, args := #[s, x], argTypes := #[25, 25] }) (base n : Nat) (v : Value) (l : List Nat) (hs : a.eval s = v) (hown : w.ownsRow base 5 1 v n (u8s l)) (hbase : base ≤ w.heap.size) (ao : Option Addr) (m c : Nat) (b : List Nat) (hx : a.eval x = .slice ao m c) (hm : b.length = m) (hb : By w ao b) (hsz : n + m ≤ 1099511627776)
    (h : ∀ v' w', w'.ownsRow base 5 1 v' (n + m) (u8s (l ++ b)) → w.grownBy w' v.ownBlock → wpList Tryd.prog ops Q rest (a.put o.dst v') w') : wpList Tryd.prog ops Q (o :: rest) a w := by
  obtain ⟨i0, hi, hz0, hz1, hz2⟩ := info_parts info_u8
  subst hm
  cases ao with
  | none =>
    have hb0 : b = [] := by
      rcases b with _ | ⟨y, t⟩
      · rfl
      · obtain ⟨_, _, e, _⟩ := hb 0 y rfl
        exact absurd e (by simp)
    subst hb0
    refine wp_of_run hgd s x _ ho _ _ hs hx (run_append_none w base _ _ _ i0 1 und_u8s hi _ _ _ hown c) ?_
    exact h v w (by simpa using hown) ⟨rfl, rfl, rfl, Nat.le_refl _, fun _ _ _ => rfl⟩
  | some ad =>
    have hnews : ∀ j u, (u8s b)[j]? = some u → w.cell? (ad.add j) = some u := by
      rcases b with _ | ⟨y, t⟩
      · intro j u hj; simp [u8s] at hj
      · obtain ⟨gg, oo, e, _⟩ := hb 0 y rfl
        injection e with e
        subst e
        exact hb.news
    obtain ⟨v', w', hr, own, gr, _⟩ := run_append_own (P := Tryd.prog) w base 25 o.type 5 i0 (.int .u8 0) 1 1 und_u8s hi hz0 hz1 hz2 rfl (by decide) v n (u8s l) hown ad b.length c (u8s b) (u8s_len b) hnews (u8s_one b) (by unfold maxLen; omega) (by omega) hbase
    rw [u8s_app] at own
    exact wp_of_run hgd s x _ ho _ _ hs hx hr (h v' w' own gr)
end Go.Proofs.YtbpglkhgggokcaaDoor
