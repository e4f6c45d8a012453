/- PACKAGE rank: front. -/
import Derived.Test.YtfdkjckoelmgeaaDoorRT1
import Derived.Test.YtfdkjckoelmgeaaDoorRA4
import Derived.Test.YtfdkjckoelmgeaaDoorShelf
namespace Go.Proofs.YtfdkjckoelmgeaaDoor
open Go.RowKit Go.Sort

theorem info_rk : (Tryd.prog.info? 30).map (fun i => (i.zero, i.size, i.bytes)) = some (some (.agg #[.int .i64 0, .int .i64 0]), 2, 16) := by kernel_rfl
theorem und_rks : Tryd.prog.underlying 24 = some (.slice 30) := by kernel_rfl
/-- Places as cells. -/
def flr (L : List (Int × Int)) : List Value := L.flatMap rk
theorem flr_len (L : List (Int × Int)) : (flr L).length = L.length * 2 := by
  induction L with
  | nil => rfl
  | cons p L ih => show (rk p ++ flr L).length = _; rw [List.length_append, ih]; simp; omega
theorem flr_at : ∀ {L : List (Int × Int)} {j : Nat} {p : Int × Int}, L[j]? = some p → (flr L)[j * 2]? = some (.int .i64 p.1) ∧ (flr L)[j * 2 + 1]? = some (.int .i64 p.2)
  | [], j, p, h => by simp at h
  | q :: L, 0, p, h => by simp at h; subst h; exact ⟨rfl, rfl⟩
  | q :: L, j + 1, p, h => by
    have := flr_at (L := L) (j := j) (p := p) (by simpa using h)
    have e : (j + 1) * 2 = j * 2 + 1 + 1 := by omega
    rw [e]
    exact this
theorem flr_one {L : List (Int × Int)} : ∀ u ∈ flr L, u.oneCell' = true := fun u hu => by
  simp only [flr, List.mem_flatMap] at hu
  obtain ⟨p, _, hp⟩ := hu
  simp at hp
  rcases hp with rfl | rfl <;> rfl
theorem flr_get {L : List (Int × Int)} {t : Nat} {u : Value} (h : (flr L)[t]? = some u) : ∃ (j : Nat) (p : Int × Int), L[j]? = some p ∧ ((t = j * 2 ∧ u = .int .i64 p.1) ∨ (t = j * 2 + 1 ∧ u = .int .i64 p.2)) := by
  have hl := (List.getElem?_eq_some_iff.1 h).1
  rw [flr_len] at hl
  have hj : t / 2 < L.length := by omega
  obtain ⟨a1, a2⟩ := flr_at (List.getElem?_eq_getElem hj)
  refine ⟨t / 2, L[t / 2], List.getElem?_eq_getElem hj, ?_⟩
  rcases Nat.mod_two_eq_zero_or_one t with e | e
  · left
    have e2 : t = t / 2 * 2 := by omega
    rw [← e2] at a1
    exact ⟨e2, Option.some.inj (h.symm.trans a1)⟩
  · right
    have e2 : t = t / 2 * 2 + 1 := by omega
    rw [← e2] at a2
    exact ⟨e2, Option.some.inj (h.symm.trans a2)⟩
set_option maxHeartbeats 1600000 in
set_option maxRecDepth 100000 in
theorem cloneK_any (g m cap : Nat) (L : List (Int × Int)) (w : World) (hl : L.length = m) (hm : m ≤ 4294967296) (hc : ∀ j p, L[j]? = some p → w.cell? ⟨g, j * 2, none⟩ = some (.int .i64 p.1) ∧ w.cell? ⟨g, j * 2 + 1, none⟩ = some (.int .i64 p.2)) :
    Calls Tryd.prog 46 #[.slice (some ⟨g, 0, none⟩) m cap] w fun e w' => ∃ v', e = .returned v' ∧ w'.ownsRow w.heap.size 30 2 v' m (flr L) ∧ Below w.heap.size w w' := by
  obtain ⟨i0, hi, hz0, hz1, hz2⟩ := info_parts info_rk
  have hnews : ∀ j u, (flr L)[j]? = some u → (w.alloc (.cells #[] 30)).cell? ((⟨g, 0, none⟩ : Addr).add j) = some u := by
    intro t u hu
    have e0 : (⟨g, 0, none⟩ : Addr).add t = ⟨g, t, none⟩ := by rcases t with _ | t <;> simp [Addr.add]
    rw [e0]
    refine keepc (bl_alloc (Below.refl _ _) _) ?_
    obtain ⟨j, p, hj, h⟩ := flr_get hu
    obtain ⟨c1, c2⟩ := hc j p hj
    rcases h with ⟨rfl, rfl⟩ | ⟨rfl, rfl⟩
    · exact c1
    · exact c2
  have HN := hid1 hnews
  have HL : Hid ((flr L).length = m * 2) := by show _ = _; rw [flr_len, hl]
  clear hc hnews hl
  have hnil : ∀ w, (binOp .eql 24 (.slice (some ⟨g, 0, none⟩) m cap) (.slice none 0 0)).run Tryd.prog w = .ok (.bool false) w := fun w => Go.Lib.run_eql_slice_nil w 24 30 (some ⟨g, 0, none⟩) m cap 0 0 und_rks
  go_enter Tryd.func46, Tryd.ntmps46
  have HE : Hid ((w.alloc (.cells #[] 30)).ownsRow w.heap.size 30 2 (.slice (some ⟨w.heap.size, 0, none⟩) 0 0) 0 []) :=
    ⟨rfl, .inr ⟨w.heap.size, 0, #[], rfl, Nat.le_refl _, blkn _ _, Nat.le_refl _, by unfold maxLen; omega, rfl, rfl⟩⟩
  go_wp2_with (at_builtin; refine wpList_append_own (w.alloc (.cells #[] 30)) rfl _ _ _ rfl w.heap.size 30 i0 (.agg #[.int .i64 0, .int .i64 0]) 2 16 und_rks hi hz0 hz1 hz2 rfl (by decide) (.slice (some ⟨w.heap.size, 0, none⟩) 0 0) 0 [] (by go_simp) HE.out ⟨g, 0, none⟩ m cap (flr L) (by go_simp) HL.out HN.out flr_one (by unfold maxLen; omega) (by omega) (by simp) ?_; intro v' w' k1 k2 k3)
  rw [Nat.zero_add, List.nil_append] at k1
  go_ret
  exact ⟨_, rfl, k1, (bl_alloc (Below.refl _ _) _).grown k2 (by simp) (fun j e => by cases e; exact Nat.le_refl _)⟩
/-- The cells of the places of l. -/
def px (l : List Int) (t : Nat) : Value := if t % 2 = 0 then .int .i64 ((t / 2 : Nat) : Int) else .int .i64 (l.getD (t / 2) 0)
theorem grown_sorted {α : Type} [Inhabited α] {enc : α → Value} {w : World} {g n : Nat} {os : Array Obj} (d : Array α) : w.grownBy (grow (putRow enc (Sort.ahead w n) g 0 d) os) (some g) := by
  refine ⟨rfl, rfl, rfl, by simp, fun k hk hne => ?_⟩
  rw [heap_grow_old _ _ (by simpa using hk)]
  have : g ≠ k := fun e => hne (by rw [e])
  simp [putRow, mapBlock, Sort.ahead, Array.getElem?_modify, this]
theorem px_holds {w : World} {G : Nat} {l : List Int} (h : w.rowIs G 30 (2 * l.length) (px l)) : HoldsK rk 2 w G 0 (pl l).toArray := by
  intro t ht
  rw [size_flatK] at ht
  have hs : (pl l).toArray.size = l.length := by simp [pl_len]
  rw [hs] at ht
  have ht2 : t / 2 < l.length := by omega
  have e1 : ((pl l).toArray)[t / 2]! = (((t / 2 : Nat) : Int), l.getD (t / 2) 0) := by
    have := pl_at ht2
    simp [List.getElem!_eq_getElem?_getD, this]
  refine ⟨?_, h.frozen _⟩
  rw [Nat.zero_add, h.cell (by omega), get_flatK _ _ _ _ (by rw [hs]; exact ht), e1]
  unfold px
  rcases Nat.mod_two_eq_zero_or_one t with e | e
  · rw [e]; rfl
  · rw [e]; rfl
set_option maxHeartbeats 1600000 in
set_option maxRecDepth 100000 in
theorem front_any (G : Nat) (l : List Int) (N : Int) (w : World) (hN : 0 ≤ N) (hN2 : N ≤ 9223372036854775807) (hl : l.length ≤ 4294967296) (h : w.rowIs G 30 (2 * l.length) (px l)) :
    Calls Tryd.prog 25 #[.slice (some ⟨G, 0, none⟩) l.length l.length, .int .i64 N, .func (.func 26) #[] #[]] w fun e w' => ∃ v', e = .returned v' ∧ w'.ownsRow w.heap.size 30 2 v' (tp l N.toNat).length (flr (tp l N.toNat)) ∧ BP (fun x => x = G) w w' := by
  have hlt := h.lt
  have SC : Hid (Calls Tryd.prog 45 #[.slice (some ⟨G, 0, none⟩) l.length l.length, .func (.func 26) #[] #[]] w fun e w' => e = .returned (.tuple #[]) ∧ BP (fun x => x = G) w w' ∧ ∀ j p, (srt l)[j]? = some p → w'.cell? ⟨G, j * 2, none⟩ = some (.int .i64 p.1) ∧ w'.cell? ⟨G, j * 2 + 1, none⟩ = some (.int .i64 p.2)) := by
    have hs : (pl l).toArray.size = l.length := by simp [pl_len]
    have hH := px_holds h
    have hr : (srt l).toArray.size = (pl l).toArray.size := by rw [hs]; simp [srt_len]
    have hc := AnyQ.slices_SortFunc_total Tryd.sortAt 2 Tryd.isAgg30 Tryd.sizeOf30 rk (fun _ => rfl) (fun x v hv => by simp at hv; rcases hv with rfl | rfl <;> rfl) fal fal_swo 26 #[] G 0 l.length (pl l).toArray w
      (enters_of Tryd.func26 (by kernel_rfl) rfl) (fun m os dk _ x y => fall_any x y _) hH hlt (by rw [hs]; omega) fal_total
    rw [hs] at hc
    refine Calls.mono hc ?_
    rintro e w' ⟨rfl, n, os, rfl⟩
    refine ⟨rfl, BP.mono (BP.grown (grown_sorted _)) (fun x _ e => by cases e; rfl), fun j p hj => ?_⟩
    have hH2 := holdsK_sortWorldK rk 2 w G 0 n _ (srt l).toArray os hlt hH hr
    have hjl := (List.getElem?_eq_some_iff.1 hj).1
    have c0 := (HoldsK.cell hH2 (i := j) (c := 0) (by simpa using hjl) (by decide)).1
    have c1 := (HoldsK.cell hH2 (i := j) (c := 1) (by simpa using hjl) (by decide)).1
    have e1 : ((srt l).toArray)[j]! = p := by simp [List.getElem!_eq_getElem?_getD, hj]
    rw [e1, Nat.zero_add] at c0 c1
    exact ⟨c0, c1⟩
  obtain ⟨A, rfl⟩ := Int.eq_ofNat_of_zero_le hN
  rw [Int.toNat_natCast]
  have HF : Hid (∀ (M cap : Nat) (w1 : World), M = min A l.length → BP (fun x => x = G) w w1 → (∀ j p, (srt l)[j]? = some p → w1.cell? ⟨G, j * 2, none⟩ = some (.int .i64 p.1) ∧ w1.cell? ⟨G, j * 2 + 1, none⟩ = some (.int .i64 p.2)) →
      Calls Tryd.prog 46 #[.slice (some ⟨G, 0, none⟩) M cap] w1 fun e w' => ∃ v', e = .returned v' ∧ w'.ownsRow w.heap.size 30 2 v' (tp l A).length (flr (tp l A)) ∧ BP (fun x => x = G) w w') := by
    rintro M cap w1 rfl hbp hc
    refine (cloneK_any G (min A l.length) cap (tp l A) w1 (tp_len l A) (by omega) (fun j p hj => hc j p ?_)).mono ?_
    · unfold tp at hj
      rw [List.getElem?_take] at hj
      split at hj
      · exact hj
      · cases hj
    · rintro e w2 ⟨v', rfl, k1, k2⟩
      refine ⟨v', rfl, ?_, hbp.step k2⟩
      rw [← tp_len l A] at k1
      refine ⟨k1.1, ?_⟩
      rcases k1.2 with k3 | ⟨g, c, cur, q1, q2, q3⟩
      · exact .inl k3
      · exact .inr ⟨g, c, cur, q1, Nat.le_trans hbp.size q2, q3⟩
  clear h
  generalize (tp l A).length = TL at *
  generalize flr (tp l A) = FT at *
  generalize srt l = S at *
  generalize l.length = n at *
  by_cases hA : A ≤ n
  · have hm : min (A : Int) (n : Int) = (A : Int) := by omega
    have hm2 : (A : Int) ≤ (n : Int) := by omega
    go_enter Tryd.func25, Tryd.ntmps25
    go_wp2_with (first
      | (go_at_call 45; refine SC.out.mono ?_; rintro e w1 ⟨rfl, hb1, hc1⟩; have HC1 := hid1 hc1; clear hc1)
      | (go_at_call 46; refine (HF.out A _ _ (by omega) hb1 HC1.out).mono ?_; rintro e w2 ⟨v', rfl, k1, k2⟩))
    go_ret
    exact ⟨_, rfl, k1, k2⟩
  · have hm : min (A : Int) (n : Int) = (n : Int) := by omega
    have hm2 : ¬ ((A : Int) ≤ (n : Int)) := by omega
    go_enter Tryd.func25, Tryd.ntmps25
    go_wp2_with (first
      | (go_at_call 45; refine SC.out.mono ?_; rintro e w1 ⟨rfl, hb1, hc1⟩; have HC1 := hid1 hc1; clear hc1)
      | (go_at_call 46; refine (HF.out n _ _ (by omega) hb1 HC1.out).mono ?_; rintro e w2 ⟨v', rfl, k1, k2⟩))
    go_ret
    exact ⟨_, rfl, k1, k2⟩
end Go.Proofs.YtfdkjckoelmgeaaDoor
