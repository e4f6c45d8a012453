/- heddlelaw11: texts. -/
import Derived.Test.YtakoicolffkbmaaGT1
namespace Go.Proofs.Ytakoicolffkbmaa
open Go.RowKit

/-- A letter of a line. -/
def okc (b : UInt8) : Prop := b = 43 ∨ b = 45 ∨ b = 48
/-- A line of n letters. -/
def OkS (n : Nat) (s : ByteArray) : Prop := s.size = n ∧ ∀ b ∈ s.data.toList, okc b
/-- Lists of bytes, whatever stands in them. -/
def Lby (w : World) (ao : Option Addr) (n : Nat) : Prop := ∀ i, i < n → ∃ g o ai mi ci, ao = some ⟨g, o, none⟩ ∧ w.cell? ⟨g, o + i, none⟩ = some (.slice ai mi ci) ∧ mi ≤ 9223372036854775807 ∧ ∀ j, j < mi → ∃ g' o' x : Nat, ai = some ⟨g', o', none⟩ ∧ x < 256 ∧ w.cell? ⟨g', o' + j, none⟩ = some (.int .u8 (x : Int))
theorem Lby.below {w w' : World} {ao : Option Addr} {n : Nat} (h : Lby w ao n) (hb : Below w.heap.size w w') : Lby w' ao n := fun i hi => by
  obtain ⟨g, o, ai, mi, ci, e, c, hm, hx⟩ := h i hi
  exact ⟨g, o, ai, mi, ci, e, keepc hb c, hm, fun j hj => by obtain ⟨g', o', x, e', hx', c'⟩ := hx j hj; exact ⟨g', o', x, e', hx', keepc hb c'⟩⟩
def pat (r : Nat) : UInt8 := if r = 0 then 43 else if r = 1 then 45 else if r = 2 then 48 else if r = 3 then 43 else 45
theorem pat_ok (r : Nat) : okc (pat r) := by
  unfold pat okc
  by_cases h0 : r = 0
  · rw [if_pos h0]; exact .inl rfl
  rw [if_neg h0]
  by_cases h1 : r = 1
  · rw [if_pos h1]; exact .inr (.inl rfl)
  rw [if_neg h1]
  by_cases h2 : r = 2
  · rw [if_pos h2]; exact .inr (.inr rfl)
  rw [if_neg h2]
  by_cases h3 : r = 3
  · rw [if_pos h3]; exact .inl rfl
  rw [if_neg h3]
  exact .inr (.inl rfl)
theorem pat_index (r : Nat) (h : r < 5) : ∀ w, (Instr.index 9 (.string ⟨#[43, 45, 48, 43, 45]⟩) (.int .u8 (r : Int))).run Try.prog w = .ok (.int .u8 ((pat r).toNat : Int)) w := fun w => by
  rcases (show r = 0 ∨ r = 1 ∨ r = 2 ∨ r = 3 ∨ r = 4 by omega) with rfl | rfl | rfl | rfl | rfl <;> kernel_rfl
/-- What both lists are, as texts grows them. -/
structure Tx (w wr : World) (v : Value) (L : List ByteArray) (len : Nat) : Prop where
  o : wr.ownsRow w.heap.size 9 1 v L.length (sts L)
  k : ∀ s ∈ L, OkS len s
  b : Below w.heap.size w wr
set_option maxHeartbeats 1600000 in
set_option maxRecDepth 100000 in
theorem texts_any (ao : Option Addr) (n ca len : Nat) (K : Nat) (w : World) (hK : K ≤ 100) (hlen : len ≤ 1000) (h : Lby w ao n) :
    Calls Try.prog 12 #[.slice ao n ca, .int .i64 K, .int .i64 len] w fun e w' => ∃ v L, e = .returned v ∧ L.length = min n K ∧ Tx w w' v L len := by
  have HL := hid1 h
  clear h
  go_enter Try.func12, Try.ntmps12
  go_wp2_with fail
  go_loopw [7, 8] (fun v x wr => ∃ (u : Value) (L : List ByteArray) (i : Nat), v = u ∧ L.length = i ∧ i ≤ n ∧ i ≤ K ∧ x = .int .i64 i ∧ Tx w wr u L len) (fun _ x _ => K - (intOf x).toNat)
  case atStart => exact ⟨_, [], 0, rfl, rfl, Nat.zero_le _, Nat.zero_le _, rfl, World.ownsRow_nil _ _ _ _, fun s hs => absurd hs (by simp), Below.refl _ _⟩
  case round =>
    obtain ⟨v, L, i, ev, hLi, hi1, hi2, rfl, ht⟩ := hrel
    replace ev := ev.symm
    subst ev
    have HT := hid1 ht
    have HLI := hid1 hLi
    clear ht hLi
    by_cases hlt : i < n ∧ i < K
    · obtain ⟨h1, h2⟩ := hlt
      have ii1 : (i : Int) < (n : Int) := by omega
      have ii2 : (i : Int) < (K : Int) := by omega
      have ii0 : (0 : Int) ≤ (i : Int) := by omega
      go_wp2_with fail
      go_loopw [9, 10] (fun s x wy => ∃ (u : Value) (l : List UInt8) (j : Nat), s = u ∧ l.length = j ∧ j ≤ len ∧ x = .int .i64 j ∧ wy.ownsRow w.heap.size 5 1 u l.length (bys l) ∧ (∀ b ∈ l, okc b) ∧ Tx w wy v L len) (fun _ x _ => len - (intOf x).toNat)
      case atStart => exact ⟨_, [], 0, rfl, rfl, Nat.zero_le _, rfl, World.ownsRow_nil _ _ _ _, fun b hb => absurd hb (by simp), HT.out⟩
      case round =>
        clear HT
        rename World => V
        obtain ⟨u, l, j, eu, hlj, hj, rfl, hown, hok, ht⟩ := hrel
        replace eu := eu.symm
        subst eu
        have HO := hid1 hown
        have HK := hid1 hok
        have HT := hid1 ht
        have HLJ := hid1 hlj
        clear hown hok ht hlj
        by_cases hjl : j < len
        · have jj : (j : Int) < (len : Int) := by omega
          have jj0 : (0 : Int) ≤ (j : Int) := by omega
          obtain ⟨g, o, ai, mi, ci, rfl, c0, hmi, hx⟩ := HL.out.below HT.out.b i h1
          have HX := hid1 hx
          clear hx
          go_upto_if 33 with fail
          go_cut [11] (fun s wx => ∃ c : Nat, c < 256 ∧ s = .int .u8 c ∧ Qt V wx)
          case first =>
            by_cases hm0 : mi = 0
            · subst hm0
              go_wp2_with fail
              go_meet
              exact ⟨0, by omega, rfl, Qt.refl _⟩
            · obtain ⟨r, hr⟩ : ∃ r : Nat, j % mi = r := ⟨_, rfl⟩
              obtain ⟨q, hq⟩ : ∃ q : Nat, j / mi = q := ⟨_, rfl⟩
              have hrm : r < mi := by rw [← hr]; exact Nat.mod_lt _ (by omega)
              have hqj : q ≤ j := by rw [← hq]; exact Nat.div_le_self _ _
              obtain ⟨g', o', x, rfl, hx256, cx⟩ := HX.out r hrm
              have er : (j : Int).tmod (mi : Int) = (r : Int) := by rw [Int.tmod_eq_emod_of_nonneg (by omega), ← hr]; rfl
              have eq : (j : Int).tdiv (mi : Int) = (q : Int) := by rw [Int.tdiv_eq_ediv_of_nonneg (by omega), ← hq]; rfl
              have m0 : ((mi : Int) == 0) = false := by simp; omega
              have mp : (0 : Int) < (mi : Int) := by omega
              have mp' : 0 < mi := by omega
              have ir0 : (0 : Int) ≤ (r : Int) := by omega
              have irm : (r : Int) < (mi : Int) := by omega
              have iq0 : (0 : Int) ≤ (q : Int) := by omega
              have iq1 : (q : Int) ≤ 1000 := by omega
              have wr' : IntKind.i64.wrap (r : Int) = r := by rw [IntKind.wrap_i64]; omega
              have wq' : IntKind.i64.wrap (q : Int) = q := by rw [IntKind.wrap_i64]; omega
              clear hr hq hm0
              go_wp2_with fail
              go_quiet (fail)
              go_wp2_with fail
              go_meet
              exact ⟨(x + q % 256) % 256, by omega, by congr 1, ⟨_, rfl⟩⟩
          case rest =>
            obtain ⟨c, hc, rfl, hqt⟩ := hcut
            have hB := hqt.below (Below.refl _ V)
            have HO2 := hid1 (own_keepg HO.out hB)
            have HT2 : Hid (Tx w wc v L len) := ⟨own_keepg HT.out.o hB, HT.out.k, bl_step HT.out.b hB⟩
            clear HO HT c0 HX hqt hB
            obtain ⟨r, hr⟩ : ∃ r : Nat, c % 5 = r := ⟨_, rfl⟩
            have hr5 : r < 5 := by omega
            have er : (c : Int) % 5 = (r : Int) := by omega
            have er' : (c : Int).tmod 5 = (r : Int) := by rw [Int.tmod_eq_emod_of_nonneg (by omega)]; exact er
            have hix := pat_index r hr5
            have wr8 : IntKind.u8.wrap (r : Int) = r := by rw [IntKind.wrap_u8]; omega
            have hsz := HT2.out.b.size
            have hlb : l.length ≤ 16777216 := by rw [HLJ.out]; omega
            have hpo := pat_ok r
            obtain ⟨pc, epc⟩ : ∃ p, pat r = p := ⟨_, rfl⟩
            rw [epc] at hix hpo
            clear hr epc
            go_wp2_with (at_builtin; refine app8g rfl _ _ rfl w.heap.size u l (by go_simp) HO2.out pc (by go_simp) hlb hsz ?_; intro v' w' hown hgrow)
            have BQ := grown_belowg HO2.out hsz hgrow
            refine ⟨⟨v', l ++ [pc], j + 1, rfl, by simp [HLJ.out], by omega, by go_num, hown, fun b hb => ?_, own_other HT2.out.o HO2.out (by decide) hgrow, HT2.out.k, HT2.out.b.trans BQ⟩, by simp [intOf]; omega⟩
            rcases List.mem_append.1 hb with h | h
            · exact HK.out b h
            · simp at h; subst h; exact hpo
        · have hjN : j = len := by omega
          subst hjN
          have hcv := conv_own HO.out
          have hsz := HT.out.b.size
          have hLb : L.length ≤ 16777216 := by rw [HLI.out]; omega
          go_wp2_with (at_builtin; refine appSg rfl _ _ rfl w.heap.size v L (by go_simp) HT.out.o ⟨l.toArray⟩ (by go_simp) hLb hsz ?_; intro v' w' hown hgrow)
          have BQ := grown_belowg HT.out.o hsz hgrow
          refine ⟨⟨v', L ++ [⟨l.toArray⟩], i + 1, rfl, by simp [HLI.out], by omega, by omega, by go_num, hown, fun s hs => ?_, HT.out.b.trans BQ⟩, by simp [intOf]; omega⟩
          rcases List.mem_append.1 hs with h | h
          · exact HT.out.k s h
          · simp at h
            subst h
            exact ⟨HLJ.out, fun b hb => HK.out b (by simpa using hb)⟩
    · have hnot : (n : Int) ≤ (i : Int) ∨ ((i : Int) < (n : Int) ∧ (K : Int) ≤ (i : Int)) := by
        by_cases h3 : i < n
        · exact .inr ⟨by omega, by omega⟩
        · exact .inl (by omega)
      have hmin : L.length = min n K := by rw [HLI.out]; omega
      have HMI := hid1 hmin
      clear hmin hlt
      rcases hnot with hf | ⟨hf1, hf2⟩
      · go_wp2_with fail
        go_ret
        exact ⟨v, L, rfl, HMI.out, HT.out⟩
      · go_wp2_with fail
        go_ret
        exact ⟨v, L, rfl, HMI.out, HT.out⟩
end Go.Proofs.Ytakoicolffkbmaa
