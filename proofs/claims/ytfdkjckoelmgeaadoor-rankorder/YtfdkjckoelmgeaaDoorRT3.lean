/- PACKAGE rank: Top. -/
import Derived.Test.YtfdkjckoelmgeaaDoorRT2
namespace Go.Proofs.YtfdkjckoelmgeaaDoor
open Go.RowKit Go.Sort

theorem own_row2 {w : World} {base e : Nat} {g n cap : Nat} {xs : List Value} (h : w.ownsRow base e 2 (.slice (some ⟨g, 0, none⟩) n cap) n xs) :
    ∃ f, base ≤ g ∧ n ≤ cap ∧ cap ≤ maxLen ∧ w.rowIs g e (2 * cap) f ∧ ∀ k, k < n * 2 → xs[k]? = some (f k) := by
  rcases h.2 with ⟨h0, _⟩ | ⟨g', cap', cur, hv, hb, hg, h4, h5, h6, h7⟩
  · cases h0
  · cases hv
    refine ⟨fun k => cur[k]?.getD undef, hb, h4, h5, ⟨cur, hg, by omega, fun i hi => ?_⟩, fun k hk => ?_⟩
    · simp [Array.getElem?_eq_getElem (show i < cur.size by omega)]
    · rw [← h7, List.getElem?_take_of_lt hk]
      simp [Array.getElem?_eq_getElem (show k < cur.size by omega)]
/-- The places under way. -/
def py (l : List Int) (k t : Nat) : Value := if t < 2 * k then px l t else .int .i64 0
theorem py_full {l : List Int} {t : Nat} (h : t < 2 * l.length) : py l l.length t = px l t := if_pos h
theorem made2 (k : Nat) : ∀ t, t < k * 2 → (madeCells (Value.agg #[.int .i64 0, .int .i64 0]).cells (k * 2)).toList[t]? = some (.int .i64 0) := by
  intro t ht
  have e : (madeCells (Value.agg #[.int .i64 0, .int .i64 0]).cells (k * 2))[t]? = some (.int .i64 0) := by
    rcases Nat.mod_two_eq_zero_or_one t with e | e <;> simp [madeCells, Value.cells, ht, e]
  rw [Array.getElem?_toList]
  exact e
theorem py_zero (l : List Int) (t : Nat) : py l 0 t = .int .i64 0 := if_neg (by omega)
theorem py_step (l : List Int) (k t : Nat) : py l (k + 1) t = if t = k * 2 + 1 then .int .i64 (l.getD k 0) else if t = k * 2 then .int .i64 (k : Int) else py l k t := by
  unfold py px
  by_cases h1 : t = k * 2 + 1
  · subst h1
    have e1 : (k * 2 + 1) % 2 = 1 := by omega
    have e2 : (k * 2 + 1) / 2 = k := by omega
    rw [if_pos (by omega), if_pos rfl, e1, e2, if_neg (by decide)]
  · rw [if_neg h1]
    by_cases h2 : t = k * 2
    · subst h2
      have e1 : (k * 2) % 2 = 0 := by omega
      have e2 : (k * 2) / 2 = k := by omega
      rw [if_pos (by omega), if_pos rfl, e1, e2, if_pos rfl]
    · rw [if_neg h2]
      by_cases h3 : t < 2 * k
      · rw [if_pos h3, if_pos (show t < 2 * (k + 1) by omega)]
      · rw [if_neg h3, if_neg (show ¬ t < 2 * (k + 1) by omega)]
set_option maxHeartbeats 1600000 in
set_option maxRecDepth 100000 in
theorem top_any (ao : Option Addr) (l : List Int) (cap : Nat) (N : Int) (w : World) (hN2 : N ≤ 9223372036854775807) (hl : l.length ≤ 4294967296) (h : Nm w ao l) (h0 : 0 ≤ N) :
    Calls Tryd.prog 9 #[.slice ao l.length cap, .int .i64 N] w fun e w' => ∃ v', e = .returned (.tuple #[v', .int .i64 0]) ∧ w'.ownsRow w.heap.size 30 2 v' (tp l N.toNat).length (flr (tp l N.toNat)) ∧ Below w.heap.size w w' := by
  obtain ⟨i0, hi, hz0, hz1, hz2⟩ := info_parts info_rk
  have HN : Hid (∀ k, k < l.length → ∃ g o, ao = some ⟨g, o, none⟩ ∧ w.cell? ⟨g, o + k, none⟩ = some (.int .i64 (l.getD k 0))) := fun k hk => by
    obtain ⟨g, o, e, c⟩ := h.at hk
    exact ⟨g, o, e, by rw [c, List.getD_eq_getElem?_getD, List.getElem?_eq_getElem hk]; rfl⟩
  have HF : Hid (∀ (G : Nat) (X : World), w.heap.size ≤ G → Below w.heap.size w X → X.rowIs G 30 (2 * l.length) (px l) →
      Calls Tryd.prog 25 #[.slice (some ⟨G, 0, none⟩) l.length l.length, .int .i64 N, .func (.func 26) #[] #[]] X fun e w' => ∃ v', e = .returned v' ∧ w'.ownsRow w.heap.size 30 2 v' (tp l N.toNat).length (flr (tp l N.toNat)) ∧ Below w.heap.size w w') := by
    intro G X hG hX hr
    refine (front_any G l N X h0 hN2 hl hr).mono ?_
    rintro e w2 ⟨v', rfl, k1, k2⟩
    refine ⟨v', rfl, ?_, ((BP.bel (S := fun x => x = G) hX).trans k2 (fun x _ e => e)).below (fun x hx e => by omega)⟩
    · refine ⟨k1.1, ?_⟩
      rcases k1.2 with k3 | ⟨g, c, cur, q1, q2, q3⟩
      · exact .inl k3
      · exact .inr ⟨g, c, cur, q1, Nat.le_trans hX.size q2, q3⟩
  clear h
  generalize (tp l N.toNat).length = TL at *
  generalize flr (tp l N.toNat) = FT at *
  obtain ⟨n, en⟩ : ∃ n, l.length = n := ⟨_, rfl⟩
  have HY : Hid (∀ t, t < 2 * n → py l n t = px l t) := fun t ht => by rw [← en] at ht ⊢; exact py_full ht
  rw [en] at HN HF hl ⊢
  clear en
  have hN1 : ¬ N < 0 := by omega
  go_enter Tryd.func9, Tryd.ntmps9
  go_wp2_with (refine wpList_make_full w rfl _ _ 24 rfl w.heap.size 30 i0 (.agg #[.int .i64 0, .int .i64 0]) 2 und_rks hi hz0 hz1 .i64 .i64 n n n (by go_simp) (by go_simp) rfl rfl (by rw [hz2]; omega) (by unfold maxLen; omega) (Nat.le_refl _) ?_; intro w1 ho1 hg1)
  obtain ⟨f, _, _, _, hr1, hf1⟩ := own_row2 ho1
  have B1 : Below w.heap.size w w1 := (Below.refl _ _).grown hg1 (Nat.le_refl _) (fun j e => by cases e)
  replace hr1 : w1.rowIs w.heap.size 30 (2 * n) (py l 0) := hr1.congr fun t ht => by
    have e1 := hf1 t (by omega)
    rw [made2 n t (by omega)] at e1
    rw [py_zero]
    exact (Option.some.inj e1).symm
  clear ho1 hg1 hf1
  go_wp2_with fail
  go_loopw [16] (fun x wr => ∃ k : Nat, k ≤ n ∧ x = .int .i64 k ∧ Hid (wr.rowIs w.heap.size 30 (2 * n) (py l k)) ∧ Below w.heap.size w wr) (fun x _ => n - (intOf x).toNat)
  case atStart => exact ⟨0, Nat.zero_le _, rfl, hr1, B1⟩
  case round =>
    clear hr1 B1
    obtain ⟨k, hk, rfl, hr, hap⟩ := hrel
    by_cases hlt : k < n
    · obtain ⟨g, o, rfl, d1⟩ := HN.out k hlt
      replace d1 := keepc hap d1
      have c0 := hr.out.cell (i := k * 2) (by omega)
      have c1 := hr.out.cell (i := k * 2 + 1) (by omega)
      have f0 := hr.out.frozen (k * 2)
      have f1 := hr.out.frozen (k * 2 + 1)
      have g0 := hr.out.lt
      have hst := fun t => py_step l k t
      generalize l.getD k 0 = z at *
      have HST := hid1 hst
      have ik : (k : Int) < (n : Int) := by omega
      have ik0 : (0 : Int) ≤ (k : Int) := by omega
      clear hst
      go_wp2_with fail
      refine ⟨⟨k + 1, by omega, by go_num, ?_, ?_⟩, by simp [intOf]; omega⟩
      · have := ((hr.out.set (k * 2) (.int .i64 (k : Int))).set (k * 2 + 1) (.int .i64 z))
        exact this.congr fun t ht => by
          rw [HST.out]
      · exact bl_set (bl_set hap (Nat.le_refl _) _) (Nat.le_refl _) _
    · have hkN : k = n := by omega
      subst hkN
      replace hr := hid1 (hr.out.congr HY.out)
      go_wp2_with (go_at_call 25; refine (HF.out w.heap.size _ (Nat.le_refl _) hap hr.out).mono ?_; rintro e w2 ⟨v', rfl, k1, k2⟩)
      go_ret2
      exact ⟨_, rfl, k1, k2⟩
end Go.Proofs.YtfdkjckoelmgeaaDoor
