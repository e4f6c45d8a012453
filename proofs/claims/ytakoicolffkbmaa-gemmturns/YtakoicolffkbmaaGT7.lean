/- heddlelaw11: turned; what a turned line sums to; lists joined. -/
import Derived.Test.YtakoicolffkbmaaGT5
import Derived.Laws.AppendOwnNone
namespace Go.Proofs.Ytakoicolffkbmaa
open Go.RowKit

theorem sz_len (s : ByteArray) : s.size = s.data.toList.length := by simp
/-- A letter turned. -/
def tc (b : UInt8) : UInt8 := if b = 43 then 45 else if b = 45 then 43 else b
def tS (s : ByteArray) : ByteArray := ⟨(s.data.toList.map tc).toArray⟩
theorem tS_list (s : ByteArray) : (tS s).data.toList = s.data.toList.map tc := by simp [tS]
theorem tc_ok {b : UInt8} (h : okc b) : okc (tc b) := by
  rcases h with rfl | rfl | rfl
  · right; left; rfl
  · left; rfl
  · right; right; rfl
theorem tS_ok {n : Nat} {s : ByteArray} (h : OkS n s) : OkS n (tS s) := by
  refine ⟨?_, fun b hb => ?_⟩
  · rw [sz_len, tS_list, List.length_map, ← sz_len]; exact h.1
  · rw [tS_list] at hb
    obtain ⟨c, hc, rfl⟩ := List.mem_map.1 hb
    exact tc_ok (h.2 c hc)
theorem ch_tS {n : Nat} {s : ByteArray} (h : OkS n s) {i : Nat} (hi : i < n) : (ch s i = 43 → ch (tS s) i = 45) ∧ (ch s i = 45 → ch (tS s) i = 43) ∧ (ch s i = 48 → ch (tS s) i = 48) := by
  have hs : i < s.data.toList.length := by rw [← sz_len, h.1]; exact hi
  have e1 : ch s i = (s.data.toList[i]'hs).toNat := by
    unfold ch; rw [List.getD_eq_getElem?_getD, List.getElem?_eq_getElem hs]; rfl
  have e2 : ch (tS s) i = (tc (s.data.toList[i]'hs)).toNat := by
    unfold ch; rw [tS_list, List.getD_eq_getElem?_getD, List.getElem?_map, List.getElem?_eq_getElem hs]; rfl
  have hm := h.2 _ (List.getElem_mem hs)
  rw [e1, e2]
  rcases hm with h | h | h
  · rw [h]; exact ⟨fun _ => rfl, fun h => absurd h (by decide), fun h => absurd h (by decide)⟩
  · rw [h]; exact ⟨fun h => absurd h (by decide), fun _ => rfl, fun h => absurd h (by decide)⟩
  · rw [h]; exact ⟨fun h => absurd h (by decide), fun h => absurd h (by decide), fun _ => rfl⟩
theorem lsp_turned {n : Nat} {s t : ByteArray} (hs : OkS n s) : ∀ i, i ≤ n → lsp n (tS s) t i = - lsp n s t i
  | 0, _ => rfl
  | i + 1, h => by
    rw [lsp_step _ _ (by omega), lsp_step _ _ (by omega), lsp_turned hs i (by omega)]
    obtain ⟨h1, h2, h3⟩ := ch_tS hs (i := i) (by omega)
    rcases ok_at hs (i := i) (by omega) with e | e | e
    · rw [e, h1 e]
      by_cases k : ch t i = 48
      · simp [k, tm]
      · by_cases k2 : ch t i = 43
        · simp [k2, tm]; omega
        · simp [k, k2, tm]; omega
    · rw [e, h2 e]
      by_cases k : ch t i = 48
      · simp [k, tm]
      · by_cases k2 : ch t i = 43
        · simp [k2, tm]; omega
        · simp [k, k2, tm]; omega
    · rw [e, h3 e]; simp [tm]
theorem lsm_turned {n : Nat} {s t : ByteArray} (hs : OkS n s) : lsm n (tS s) t = - lsm n s t := by
  rw [lsm_is, lsm_is, lsp_turned hs n (Nat.le_refl _)]
theorem tm_comm (c a b : Bool) : tm c a b = tm c b a := by cases c <;> cases a <;> cases b <;> rfl
theorem tq_comm (C D A B : Nat) : ∀ n, tq (C &&& D) A B n = tq (D &&& C) B A n
  | 0 => rfl
  | n + 1 => by simp only [tq]; rw [tq_comm C D A B n, tm_comm, Nat.and_comm C D]
theorem lsm_comm (n : Nat) (s t : ByteArray) : lsm n s t = lsm n t s := tq_comm _ _ _ _ _
theorem lsm_bd (n : Nat) (s t : ByteArray) : -(n : Int) ≤ lsm n s t ∧ lsm n s t ≤ n := by rw [lsm_is]; exact lsp_bd n s t n
set_option maxHeartbeats 1600000 in
set_option maxRecDepth 100000 in
theorem turned_any (s : ByteArray) (n : Nat) (w : World) (hn : n ≤ 1000) (hs : OkS n s) :
    Calls Try.prog 16 #[.string s] w fun e w' => e = .returned (.string (tS s)) ∧ Below w.heap.size w w' := by
  have HS := hid1 hs
  have e1 := hs.1
  clear hs
  go_enter Try.func16, Try.ntmps16
  go_wp2_with fail
  go_loopw [3, 4] (fun v x wr => ∃ (u : Value) (i : Nat), v = u ∧ i ≤ n ∧ x = .int .i64 i ∧ wr.ownsRow w.heap.size 5 1 u ((s.data.toList.map tc).take i).length (bys ((s.data.toList.map tc).take i)) ∧ Below w.heap.size w wr) (fun _ x _ => n - (intOf x).toNat)
  case atStart => exact ⟨_, 0, rfl, Nat.zero_le _, rfl, World.ownsRow_nil _ _ _ _, Below.refl _ _⟩
  case round =>
    obtain ⟨v, i, ev, hi, rfl, hown, hB⟩ := hrel
    replace ev := ev.symm
    subst ev
    have HO := hid1 hown
    clear hown
    by_cases hlt : i < n
    · have is1 : i < s.size := by rw [e1]; exact hlt
      have hsl : i < s.data.toList.length := by rw [← sz_len]; exact is1
      have ii : (i : Int) < (n : Int) := by omega
      have ii0 : (0 : Int) ≤ (i : Int) := by omega
      have hm := HS.out.2 (s.data.toList[i]'hsl) (List.getElem_mem hsl)
      have hsz := hB.size
      have hlb : ((s.data.toList.map tc).take i).length ≤ 16777216 := by rw [List.length_take]; omega
      have esi : s[i] = s.data.toList[i]'hsl := rfl
      have HT : Hid ((s.data.toList.map tc).take (i + 1) = (s.data.toList.map tc).take i ++ [tc (s.data.toList[i]'hsl)]) := hid1 (by
        rw [List.take_succ_eq_append_getElem (by simpa using hsl)]; simp)
      rw [← esi] at hm HT
      clear esi
      obtain ⟨l, el⟩ : ∃ l, (s.data.toList.map tc).take i = l := ⟨_, rfl⟩
      rw [el] at HT HO hlb
      clear el
      rcases hm with hm | hm | hm
      · rw [hm] at HT
        have hx : (s[i].toNat : Int) = 43 := by rw [hm]; rfl
        clear hm
        go_wp2_with (at_builtin; refine app8g rfl _ _ rfl w.heap.size v l (by go_simp) HO.out 45 (by go_simp) hlb hsz ?_; intro v' w' hown hgrow)
        have BQ := grown_belowg HO.out hsz hgrow
        refine ⟨⟨v', i + 1, rfl, by omega, by go_num, ?_, hB.trans BQ⟩, by simp [intOf]; omega⟩
        rw [HT.out]; exact hown
      · rw [hm] at HT
        have hx : (s[i].toNat : Int) = 45 := by rw [hm]; rfl
        clear hm
        go_wp2_with (at_builtin; refine app8g rfl _ _ rfl w.heap.size v l (by go_simp) HO.out 43 (by go_simp) hlb hsz ?_; intro v' w' hown hgrow)
        have BQ := grown_belowg HO.out hsz hgrow
        refine ⟨⟨v', i + 1, rfl, by omega, by go_num, ?_, hB.trans BQ⟩, by simp [intOf]; omega⟩
        rw [HT.out]; exact hown
      · rw [hm] at HT
        have hx : (s[i].toNat : Int) = 48 := by rw [hm]; rfl
        clear hm
        go_wp2_with (at_builtin; refine app8g rfl _ _ rfl w.heap.size v l (by go_simp) HO.out 48 (by go_simp) hlb hsz ?_; intro v' w' hown hgrow)
        have BQ := grown_belowg HO.out hsz hgrow
        refine ⟨⟨v', i + 1, rfl, by omega, by go_num, ?_, hB.trans BQ⟩, by simp [intOf]; omega⟩
        rw [HT.out]; exact hown
    · have hkN : i = n := by omega
      subst hkN
      have HO2 : Hid (wr.ownsRow w.heap.size 5 1 v (s.data.toList.map tc).length (bys (s.data.toList.map tc))) := hid1 (by
        have h := HO.out
        rw [List.take_of_length_le (by rw [List.length_map, ← sz_len]; omega)] at h
        exact h)
      have hcv := conv_own HO2.out
      go_wp2_with fail
      go_ret
      exact ⟨rfl, hB⟩
/-- All texts of a list behind those of another. -/
theorem appSAll {ops : Array Oper} {rest : List Oper} {o : Oper} {a : Act} {Q : Exit → Act → World → Prop} {w : World} (hgd : o.guard = none) (s x : Operand)
    (ho : o.op = .call { callee := .builtin .append, args := #[s, x], argTypes := #[37, 37] }) (base N ca : Nat) (bo : Option Addr) (L : List ByteArray) (hs : a.eval s = .slice none 0 0)
    (hx : a.eval x = .slice bo N ca) (hL : L.length = N) (hbo : (bo = none ∧ ca = 0) ∨ ∃ g, bo = some ⟨g, 0, none⟩) (hM : N ≤ 16777216) (hb : base ≤ w.heap.size) (hl : Ls w bo L)
    (h : ∀ v' w', w'.ownsRow base 9 1 v' L.length (sts L) → Below w.heap.size w w' → wpList Try.prog ops Q rest (a.put o.dst v') w') : wpList Try.prog ops Q (o :: rest) a w := by
  obtain ⟨i0, hi, hz0, hz1, hz2⟩ := info_parts info_str
  rcases hbo with ⟨rfl, rfl⟩ | ⟨g, rfl⟩
  · have hN : N = 0 := by
      rcases Nat.eq_zero_or_pos N with h0 | h0
      · exact h0
      · obtain ⟨_, _, e, _⟩ := hl 0 (by omega); cases e
    subst hN
    have e0 : L = [] := List.eq_nil_of_length_eq_zero hL
    subst e0
    exact wpList_append_own_none hgd s x _ ho base 9 i0 1 und_strs hi (.slice none 0 0) 0 [] hs (World.ownsRow_nil _ _ _ _) hx (h _ _ (World.ownsRow_nil _ _ _ _) (Below.refl _ _))
  · refine wpList_append_own w hgd s x _ ho base 9 i0 (.string ⟨#[]⟩) 1 16 und_strs hi hz0 hz1 hz2 rfl (by decide) (.slice none 0 0) 0 [] hs (World.ownsRow_nil _ _ _ _) ⟨g, 0, none⟩ N ca (sts L) hx (by simp [sts, hL])
      (fun j u hu => ?_) (fun u hu => by simp [sts] at hu; obtain ⟨y, _, rfl⟩ := hu; rfl) (by unfold maxLen; omega) (by omega) hb ?_
    · have hj : j < L.length := by
        have := (List.getElem?_eq_some_iff.1 hu).1
        simpa [sts] using this
      obtain ⟨g', o', e, c⟩ := hl j hj
      cases e
      rw [add_at0]
      rw [Nat.zero_add] at c
      rw [c]
      simp [sts, hj] at hu
      rw [hu]
    · intro v' w' h1 h2 _
      refine h v' w' ?_ ⟨h2.os, h2.tape, h2.output, h2.size, fun k hk => h2.block k hk (by simp [Value.ownBlock])⟩
      rw [Nat.zero_add, List.nil_append] at h1
      rw [hL]; exact h1
end Go.Proofs.Ytakoicolffkbmaa
