/- PACKAGE rank: clone, Add. -/
import Derived.Test.YtfdkjckoelmgeaaDoorRA4
namespace Go.Proofs.YtfdkjckoelmgeaaDoor
open Go.RowKit

theorem take_push {T : List (List Int)} {k : Nat} (h : k < T.length) : T.take k ++ [T[k]] = T.take (k + 1) := by
  rw [List.take_add_one, List.getElem?_eq_getElem h]; rfl
set_option maxHeartbeats 1600000 in
set_option maxRecDepth 100000 in
theorem clone_any (ao : Option Addr) (T : List (List Int)) (cap : Nat) (w : World) (h1 : 1 ≤ T.length) (h2 : T.length ≤ 256) (hr : ∀ r ∈ T, 1 ≤ r.length ∧ r.length ≤ 256) (h : Tn w ao T) :
    Calls Tryd.prog 29 #[tbv ao T.length cap] w fun e w' => ∃ G b K, e = .returned (tbv (some ⟨G, 0, none⟩) T.length T.length) ∧ Tb w' w.heap.size G b K T ∧ Below w.heap.size w w' := by
  obtain ⟨j0, hj, hy0, hy1, hy2⟩ := info_parts info_i64s
  obtain ⟨n, hn⟩ : ∃ n, T.length = n := ⟨_, rfl⟩
  have HA : Hid (∀ k, (hk : k < T.length) → ∃ g o ai ci, ao = some ⟨g, o, none⟩ ∧ w.cell? ⟨g, o + k, none⟩ = some (.slice ai T[k].length ci) ∧ Nm w ai T[k]) := fun k hk => h.at hk
  have HR := hid1 hr
  have HN := hid1 hn
  clear h hr
  rw [hn] at h1 h2 ⊢
  clear hn
  go_enter Tryd.func29, Tryd.ntmps29
  go_wp2_with ((refine wpList_make_row _ rfl _ _ 34 rfl 22 j0 (.slice none 0 0) und_i64ss hj hy0 hy1 rfl .i64 .i64 n (by go_simp) (by go_simp) (by rw [hy2]; omega) (by omega) ?_; refine gen_list (fun X => Below w.heap.size w X ∧ Tz X (w.heap.size + 2) (w.heap.size + 2) (fun _ => 0) (fun _ => 0) [] n ∧ X.rowIs (w.heap.size + 1) 36 1 (fun _ => .slice none 0 0) ∧ X.rowIs w.heap.size 36 1 (fun _ => .slice ao n cap)) ⟨bl_alloc (bl_alloc (bl_alloc (Below.refl _ _) _) _) _, by have := Tz.nil (w := (w.alloc (.cells #[.slice ao n cap] 36)).alloc (.cells #[.slice none 0 0] 36)) n; simpa using this, by have := (World.rowIs_alloc (w.alloc (.cells #[.slice ao n cap] 36)) #[.slice none 0 0] 36 (fun _ => .slice none 0 0) (fun i hi => by simp at hi; subst hi; rfl)); simp only [World.size_alloc] at this; exact this.alloc _, ((World.rowIs_alloc w #[.slice ao n cap] 36 (fun _ => .slice ao n cap) (fun i hi => by simp at hi; subst hi; rfl)).alloc _).alloc _⟩ ?_; rintro W1 ⟨B1, hz, cq, cs⟩; have cs0 := cs.cell (i := 0) (by omega); clear cs))
  go_loopw [13] (fun i wr => ∃ (k : Nat) (b K : Nat → Nat), k ≤ n ∧ i = .int .i64 (k : Nat) ∧ Tz wr (w.heap.size + 2) (w.heap.size + 2) b K (T.take k) n ∧ Below w.heap.size w wr ∧ wr.rowIs (w.heap.size + 1) 36 1 (fun _ => .slice none 0 0)) (fun i _ => n - (intOf i).toNat)
  case atStart => exact ⟨0, _, _, Nat.zero_le _, rfl, hz, B1, cq⟩
  case round =>
    clear hz B1 cq
    obtain ⟨k, b, K, hk, rfl, hz, B1, cq⟩ := hrel
    by_cases hlt : k < n
    · have hkT : k < T.length := by rw [HN.out]; exact hlt
      obtain ⟨g, o, ai, ci, rfl, d1, nm⟩ := HA.out k hkT
      have hr := HR.out T[k] (List.getElem_mem hkT)
      have hpush := take_push hkT
      have htl : (T.take k).length = k := by rw [List.length_take]; omega
      generalize T[k] = r at d1 nm hr hpush
      obtain ⟨m, hm⟩ : ∃ m, r.length = m := ⟨_, rfl⟩
      rw [hm] at d1 hr
      obtain ⟨g2, o2, rfl⟩ : ∃ g2 o2, ai = some ⟨g2, o2, none⟩ := by
        obtain ⟨g2, o2, e, _⟩ := nm.at (k := 0) (by omega)
        exact ⟨g2, o2, e⟩
      have ik : (k : Int) < (n : Int) := by omega
      have ik0 : (0 : Int) ≤ (k : Int) := by omega
      replace d1 := keepc B1 d1
      have HC : Hid (Calls Tryd.prog 50 #[.slice (some ⟨g2, o2, none⟩) m ci] wr fun e w' => ∃ G K, e = .returned (.slice (some ⟨G, 0, none⟩) m K) ∧ wr.heap.size ≤ G ∧ Ro w' G K r ∧ Below wr.heap.size wr w') := clone64_any g2 o2 m ci r wr hm (by omega) (by omega) (nm.below B1)
      have HZ := hid1 hz
      have c0 := hz.out.cell hlt
      have f0 := hz.out.frozen k
      have g0 := hz.out.lt
      have HP := hid1 hpush
      have HM := hid1 hm
      clear hz nm hpush hm hkT
      go_wp2_with (go_at_call 50; refine HC.out.mono ?_; rintro e w' ⟨G, K', rfl, hG, ro, hb⟩; have c0' := keepc hb c0; have f0' : w'.frozen? ⟨w.heap.size + 2, k, none⟩ = false := (hb.frozen (p := ⟨w.heap.size + 2, k, none⟩) g0).trans f0; have g0' : w.heap.size + 2 < w'.heap.size := Nat.lt_of_lt_of_le g0 hb.size; have B2 := bl_step B1 hb)
      have hpp := HZ.out.push hb hG ro (by rw [htl]; exact hlt)
      rw [HP.out, HM.out, htl] at hpp
      exact ⟨⟨k + 1, _, _, by omega, by go_num, hpp, bl_set B2 (by omega) _, (keepr hb cq).setOther (show w.heap.size + 1 ≠ w.heap.size + 2 by omega) _⟩, by simp [intOf]; omega⟩
    · have hkN : k = n := by omega
      subst hkN
      have HZ := hid1 hz
      have g0 := hz.out.lt
      have q0 := cq.cell (i := 0) (by omega)
      have q1 := cq.frozen 0
      clear hz
      go_wp2_with fail
      refine bodyPost_ret (v := tbv (some ⟨w.heap.size + 2, 0, none⟩) k k) (by simp [results, Tryd.results29, go_sem, q0]) rfl ⟨_, b, K, rfl, ?_, bl_set B1 (by omega) _⟩
      have h2 := (HZ.out.other (a := ⟨w.heap.size + 1, 0, none⟩) (Nat.lt_succ_self _) (.slice (some ⟨w.heap.size + 2, 0, none⟩) k k)).mono (show w.heap.size ≤ w.heap.size + 2 by omega)
      rw [List.take_of_length_le (by rw [HN.out]; exact Nat.le_refl _)] at h2
      unfold Tb
      rw [HN.out]
      exact h2
end Go.Proofs.YtfdkjckoelmgeaaDoor
