/- PACKAGE rank: Right. -/
import Derived.Test.YtfdkjckoelmgeaaDoorRA7
namespace Go.Proofs.YtfdkjckoelmgeaaDoor
open Go.RowKit

theorem cE_cases (T : List (List Int)) : (cE T = 1 ∧ cV T = 0 ∧ cnt T = none) ∨ (cE T = 0 ∧ cnt T = some (cV T)) := by
  unfold cE cV
  cases cnt T with
  | none => exact .inl ⟨rfl, rfl, rfl⟩
  | some b => exact .inr ⟨rfl, rfl⟩
/-- What Right tells. -/
def rV (T : List (List Int)) : Int := if cE T = 0 then rg T T.length else 0
set_option maxHeartbeats 1600000 in
set_option maxRecDepth 100000 in
theorem right_any (ao : Option Addr) (T : List (List Int)) (cap : Nat) (w : World) (h2 : T.length ≤ 9223372036854775807) (hr : ∀ r ∈ T, r.length ≤ 9223372036854775807) (h : Tn w ao T) :
    Calls Tryd.prog 14 #[tbv ao T.length cap] w fun e w' => e = .returned (.tuple #[.int .i64 (rV T), .int .i64 (cV T), .int .i64 (cE T)]) ∧ Below w.heap.size w w' := by
  have CC : Hid (∀ X, Below w.heap.size w X → Calls Tryd.prog 27 #[tbv ao T.length cap] X fun e w' => e = .returned (.tuple #[.int .i64 (cV T), .int .i64 (cE T)]) ∧ Below X.heap.size X w') := fun X hX => count_any ao T cap X h2 hr (h.below hX)
  unfold rV
  rcases cE_cases T with ⟨e1, e2, _⟩ | ⟨e1, e2⟩
  · rw [e1, e2] at CC
    rw [e1, e2, if_neg (by decide)]
    clear h hr e1 e2
    generalize T.length = n at *
    go_enter Tryd.func14, Tryd.ntmps14
    go_wp2_with (go_at_call 27; refine (CC.out _ (bl_alloc (Below.refl _ _) _)).mono ?_; rintro e w1 ⟨rfl, hb1⟩; have B1 : Below w.heap.size w w1 := bl_step (bl_alloc (Below.refl _ _) _) hb1; clear hb1)
    exact bodyPost_ret (v := .tuple #[.int .i64 0, .int .i64 0, .int .i64 1]) (by simp [results, Tryd.results14, go_sem]) rfl ⟨rfl, B1⟩
  · rw [e1] at CC
    rw [e1, if_pos rfl]
    obtain ⟨q1, q2, q3, q4, q5, q6⟩ := cnt_some e2
    have HT := hid1 h
    have HQ : Hid (∀ k, k ≤ T.length → 0 ≤ rg T k ∧ rg T k ≤ 4611686018427387904) := fun k hk => by have := rg_bd e2 k hk; omega
    have HL : Hid (∀ k, (hk : k < T.length) → (T[k]).length = T.length) := fun k hk => (q3 _ (List.getElem_mem hk)).1
    clear h hr e1 e2 q3 q4
    generalize cV T = V at *
    obtain ⟨n, hn⟩ : ∃ n, T.length = n := ⟨_, rfl⟩
    have HN := hid1 hn
    rw [hn] at CC q1 q2 ⊢
    clear hn h2
    go_enter Tryd.func14, Tryd.ntmps14
    go_wp2_with (go_at_call 27; refine (CC.out _ (bl_alloc (Below.refl _ _) _)).mono ?_; rintro e w1 ⟨rfl, hb1⟩; have B1 : Below w.heap.size w w1 := bl_step (bl_alloc (Below.refl _ _) _) hb1; have b0 := keepc hb1 (b := w.heap.size) (o := 0) (v := .slice ao n cap) (by simp [go_sem]); clear hb1)
    go_loopw [7, 21] (fun x y wr => ∃ k : Nat, k ≤ n ∧ x = .int .i64 (rg T k) ∧ y = .int .i64 k ∧ wr = w1) (fun _ y _ => n - (intOf y).toNat)
    case atStart => exact ⟨0, Nat.zero_le _, rfl, rfl, rfl⟩
    case round =>
      obtain ⟨k, hk, rfl, rfl, rfl⟩ := hrel
      by_cases hlt : k < n
      · have hkT : k < T.length := by rw [HN.out]; exact hlt
        obtain ⟨g, o, ai, ci, rfl, d1, nm⟩ := HT.out.at hkT
        replace d1 := keepc B1 d1
        replace nm := nm.below B1
        have hl := HL.out k hkT
        rw [HN.out] at hl
        obtain ⟨g2, o2, rfl, d2⟩ := nm.at (k := k) (by omega)
        have hs : rg T (k + 1) = rg T k + (T.getD k []).getD k 0 := rfl
        have he : (T.getD k []).getD k 0 = (T[k])[k]'(by omega) := by
          simp [List.getD_eq_getElem?_getD, List.getElem?_eq_getElem hkT, List.getElem?_eq_getElem (show k < T[k].length by omega)]
        rw [he] at hs
        have b1 := HQ.out (k + 1) (by omega)
        have b2 := HQ.out k (by omega)
        rw [hl] at d1
        generalize T[k][k]'(by omega) = z at *
        clear he hl nm hkT
        have HS := hid1 hs
        rw [hs] at b1
        clear hs
        have ik : (k : Int) < (n : Int) := by omega
        have ik0 : (0 : Int) ≤ (k : Int) := by omega
        have hw : IntKind.i64.wrap (rg T k + z) = rg T k + z := by rw [IntKind.wrap_i64]; omega
        clear b1 b2
        generalize rg T k = A at *
        go_wp2_with fail
        exact ⟨⟨k + 1, by omega, by rw [HS.out], by go_num, by first | rfl | trivial⟩, by simp [intOf]; omega⟩
      · have hkN : k = n := by omega
        subst hkN
        go_wp2_with fail
        exact bodyPost_ret (v := .tuple #[.int .i64 (rg T k), .int .i64 V, .int .i64 0]) (by simp [results, Tryd.results14, go_sem]) rfl ⟨rfl, B1⟩
end Go.Proofs.YtfdkjckoelmgeaaDoor
