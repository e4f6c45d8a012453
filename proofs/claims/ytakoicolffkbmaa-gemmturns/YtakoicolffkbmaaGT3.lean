/- heddlelaw11: packed. -/
import Derived.Test.YtakoicolffkbmaaGT2
namespace Go.Proofs.Ytakoicolffkbmaa
open Go.RowKit

/-- A list of texts. -/
def Ls (w : World) (ao : Option Addr) (L : List ByteArray) : Prop := ∀ i (h : i < L.length), ∃ g o, ao = some ⟨g, o, none⟩ ∧ w.cell? ⟨g, o + i, none⟩ = some (.string L[i])
theorem Ls.below {w w' : World} {ao : Option Addr} {L : List ByteArray} (h : Ls w ao L) (hb : Below w.heap.size w w') : Ls w' ao L := fun i hi => by
  obtain ⟨g, o, e, c⟩ := h i hi; exact ⟨g, o, e, keepc hb c⟩
theorem ls_own {w : World} {base : Nat} {v : Value} {L : List ByteArray} (h : w.ownsRow base 9 1 v L.length (sts L)) : ∃ ao cap, v = .slice ao L.length cap ∧ L.length ≤ cap ∧ Ls w ao L := by
  rcases own_forms h with ⟨rfl, h0⟩ | ⟨g, cap, rfl, h1, _⟩
  · exact ⟨none, 0, by rw [h0], by omega, fun i hi => by omega⟩
  · exact ⟨_, cap, rfl, h1, fun i hi => ⟨g, 0, rfl, by rw [Nat.zero_add]; exact own_at h (by simp [sts, hi])⟩⟩
theorem rcs_at (l : List (Bt × Bt)) : ∀ i (h : i < l.length), (rcs l)[i * 4]? = some (.int .i64 l[i].1.n) ∧ (rcs l)[i * 4 + 1]? = some (.slice l[i].1.ao l[i].1.m l[i].1.cap) ∧ (rcs l)[i * 4 + 2]? = some (.int .i64 l[i].2.n) ∧ (rcs l)[i * 4 + 3]? = some (.slice l[i].2.ao l[i].2.m l[i].2.cap) := by
  induction l with
  | nil => intro i h; simp at h
  | cons x l ih =>
    intro i h
    have e : rcs (x :: l) = [.int .i64 x.1.n, .slice x.1.ao x.1.m x.1.cap, .int .i64 x.2.n, .slice x.2.ao x.2.m x.2.cap] ++ rcs l := by simp [rcs]
    rcases i with _ | i
    · rw [e]; exact ⟨rfl, rfl, rfl, rfl⟩
    · obtain ⟨h0, h1, h2, h3⟩ := ih i (by simp at h; omega)
      rw [e]
      have sh : ∀ k : Nat, ([.int .i64 x.1.n, .slice x.1.ao x.1.m x.1.cap, .int .i64 x.2.n, .slice x.2.ao x.2.m x.2.cap] ++ rcs l)[(i + 1) * 4 + k]? = (rcs l)[i * 4 + k]? := fun k => by
        rw [List.getElem?_append_right (by simp; omega)]
        congr 1
        simp; omega
      have s0 := sh 0
      rw [Nat.add_zero, Nat.add_zero] at s0
      rw [s0, sh 1, sh 2, sh 3]
      exact ⟨h0, h1, h2, h3⟩
/-- A row's words, in memory of their own kind. -/
def Rk (w : World) (b : Bt) : Prop := ∃ g, b.ao = some ⟨g, 0, none⟩ ∧ b.N < 2 ^ (64 * b.m) ∧ b.m ≤ 262144 ∧ w.rowIs g 83 b.m (wf b.N)
theorem Rk.rw {w : World} {b : Bt} (h : Rk w b) : Rw w b := by
  obtain ⟨g, e, h1, h2, hr⟩ := h
  exact ⟨h1, by omega, fun k hk => ⟨g, 0, e, by rw [Nat.zero_add]; exact hr.cell hk⟩⟩
theorem Rk.below {w w' : World} {b : Bt} (h : Rk w b) (hb : Below w.heap.size w w') : Rk w' b := by
  obtain ⟨g, e, h1, h2, hr⟩ := h; exact ⟨g, e, h1, h2, keepr hb hr⟩
theorem Rk.grown {w w' : World} {b : Bt} {base n : Nat} {v : Value} {xs : List Value} {o : Obj} (h : Rk w b) (hown : w.ownsRow base 28 4 v n xs) (hg : (w.alloc o).grownBy w' v.ownBlock) : Rk w' b := by
  obtain ⟨g, e, h1, h2, hr⟩ := h
  refine ⟨g, e, h1, h2, ?_⟩
  have ha := hr.alloc o
  refine ha.of_block (hg.block _ ha.lt ?_)
  intro e1
  rcases (hown.alloc o).2 with ⟨rfl, _⟩ | ⟨g', cap, cur, rfl, _, hg', _⟩
  · simp [Value.ownBlock] at e1
  · simp [Value.ownBlock] at e1
    subst e1
    obtain ⟨cc, hc, _⟩ := ha
    rw [hg'] at hc
    injection hc with hc
    injection hc with _ h2 _
    exact absurd h2 (by decide)
theorem rk_line {w : World} {s : ByteArray} {n g1 g2 : Nat} (h1 : n ≤ 16777216) (r1 : w.rowIs g1 83 (nw n) (wf (bn (pl s) n))) (r2 : w.rowIs g2 83 (nw n) (wf (bn (nz s) n))) : Rk w (lnS s n g1) ∧ Rk w (lnM s n g2) :=
  ⟨⟨g1, rfl, lt_nw (bn_lt _ _), nw_bd h1, r1⟩, ⟨g2, rfl, lt_nw (bn_lt _ _), nw_bd h1, r2⟩⟩
/-- Rows made of texts, as far as they are made. -/
structure Pk (w wr : World) (u : Value) (l : List (Bt × Bt)) (n : Nat) (L : List ByteArray) : Prop where
  o : wr.ownsRow w.heap.size 28 4 u l.length (rcs l)
  r : ∀ x ∈ l, Rk wr x.1 ∧ Rk wr x.2
  i : ∀ i (h : i < l.length) (h' : i < L.length), IsL n L[i] l[i]
  b : Below w.heap.size w wr
theorem Pk.list {w wr : World} {u : Value} {l : List (Bt × Bt)} {n : Nat} {L : List ByteArray} (h : Pk w wr u l n L) : ∃ ao cap, u = .slice ao l.length cap ∧ l.length ≤ cap ∧ Lq wr ao l := by
  rcases own_forms h.o with ⟨e, h0⟩ | ⟨g, cap, e, h1, _⟩
  · exact ⟨none, 0, by rw [h0]; exact e, by omega, fun i hi => by omega⟩
  · subst e
    refine ⟨_, cap, rfl, h1, fun i hi => ?_⟩
    obtain ⟨h0, h1, h2, h3⟩ := rcs_at l i hi
    obtain ⟨k1, k2⟩ := h.r l[i] (List.getElem_mem hi)
    exact ⟨⟨g, 0, rfl, by rw [Nat.zero_add]; exact own_at h.o h0, by rw [Nat.zero_add]; exact own_at h.o h1, by rw [Nat.zero_add]; exact own_at h.o h2, by rw [Nat.zero_add]; exact own_at h.o h3⟩, k1.rw, k2.rw⟩
set_option maxHeartbeats 1600000 in
set_option maxRecDepth 100000 in
theorem packed_any (ao : Option Addr) (L : List ByteArray) (N ca n : Nat) (w : World) (eN : L.length = N) (hL : N ≤ 1000) (hn : n ≤ 16777216) (hs : ∀ s ∈ L, s.size = n) (h : Ls w ao L) :
    Calls Try.prog 13 #[.slice ao N ca] w fun e w' => ∃ bo l cb, e = .returned (.slice bo N cb) ∧ l.length = N ∧ N ≤ cb ∧ Lq w' bo l ∧ (∀ i (h : i < l.length) (h' : i < L.length), IsL n L[i] l[i]) ∧ Below w.heap.size w w' := by
  have HL := hid1 h
  have HS := hid1 hs
  have EN := hid1 eN
  clear h hs eN
  go_enter Try.func13, Try.ntmps13
  go_wp2_with fail
  go_loopw [3, 4] (fun v x wr => ∃ (u : Value) (l : List (Bt × Bt)) (i : Nat), v = u ∧ l.length = i ∧ i ≤ N ∧ x = .int .i64 i ∧ Pk w wr u l n L) (fun _ x _ => N - (intOf x).toNat)
  case atStart => exact ⟨_, [], 0, rfl, rfl, Nat.zero_le _, rfl, World.ownsRow_nil _ _ _ _, fun x hx => absurd hx (by simp), fun i h => absurd h (by simp), Below.refl _ _⟩
  case round =>
    obtain ⟨v, l, i, ev, hli, hi, rfl, hp⟩ := hrel
    replace ev := ev.symm
    subst ev
    have HP := hid1 hp
    have HLI := hid1 hli
    clear hp hli
    by_cases hlt : i < N
    · have hil : i < L.length := by rw [EN.out]; exact hlt
      have ii : (i : Int) < (N : Int) := by omega
      have ii0 : (0 : Int) ≤ (i : Int) := by omega
      obtain ⟨g, o, rfl, c0⟩ := HL.out.below HP.out.b i hil
      have hsi := HS.out L[i] (List.getElem_mem hil)
      obtain ⟨s, es⟩ : ∃ s, L[i] = s := ⟨_, rfl⟩
      rw [es] at c0 hsi
      have ES := hid1 es
      clear es
      go_wp2_with fail
      refine (line_own s n hsi hn wr).mono ?_
      rintro e w1 ⟨g1, g2, rfl, r1, r2, hb1⟩
      have hsz : w.heap.size ≤ w1.heap.size := Nat.le_trans HP.out.b.size hb1.size
      have hlb : l.length ≤ 16777216 := by rw [HLI.out]; omega
      have HO := hid1 (own_keepg HP.out.o hb1)
      have HRK := hid1 (rk_line hn r1 r2)
      have HB := hid1 (bl_step HP.out.b hb1)
      have HOLD : Hid (∀ x ∈ l, Rk w1 x.1 ∧ Rk w1 x.2) := fun x hx => ⟨(HP.out.r x hx).1.below hb1, (HP.out.r x hx).2.below hb1⟩
      have HI := hid1 HP.out.i
      clear HP r1 r2 hb1 c0
      go_wp2_with (at_builtin; refine appRg rfl _ _ rfl w.heap.size v l (by go_simp) HO.out (lnS s n g1, lnM s n g2) (by go_simp) hlb hsz ?_; intro v' w' hown hgrow)
      have BQ := grown_belowg HO.out hsz hgrow
      refine ⟨⟨v', l ++ [(lnS s n g1, lnM s n g2)], i + 1, rfl, by simp [HLI.out], by omega, by go_num, hown, fun x hx => ?_, fun k hk hk' => ?_, HB.out.trans BQ⟩, by simp [intOf]; omega⟩
      · rcases List.mem_append.1 hx with h | h
        · exact ⟨(HOLD.out x h).1.grown HO.out hgrow, (HOLD.out x h).2.grown HO.out hgrow⟩
        · simp at h; subst h
          exact ⟨HRK.out.1.grown HO.out hgrow, HRK.out.2.grown HO.out hgrow⟩
      · by_cases hkl : k < l.length
        · rw [List.getElem_append_left hkl]; exact HI.out k hkl hk'
        · have e1 : k = l.length := by simp at hk; omega
          subst e1
          rw [List.getElem_append_right (Nat.le_refl _)]
          have e2 : L[l.length]'hk' = s := by
            have := ES.out
            simp only [HLI.out]; exact this
          rw [e2]
          simp only [Nat.sub_self, List.getElem_cons_zero]
          exact ⟨g1, g2, rfl⟩
    · have hkN : i = N := by omega
      subst hkN
      obtain ⟨bo, cb, eu, h1, h2⟩ := HP.out.list
      rw [HLI.out] at eu h1
      subst eu
      have HQ := hid1 (And.intro h1 h2)
      clear h1 h2
      go_wp2_with fail
      go_ret
      exact ⟨bo, l, cb, rfl, HLI.out, HQ.out.1, HQ.out.2, HP.out.i, HP.out.b⟩
end Go.Proofs.Ytakoicolffkbmaa
