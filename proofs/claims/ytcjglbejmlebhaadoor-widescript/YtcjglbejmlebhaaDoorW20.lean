import Derived.Test.YtcjglbejmlebhaaDoorW17
import Derived.Laws.AppendOwn
namespace Go.Proofs.YtcjglbejmlebhaaDoor
open Go.RowKit Go.Shelf

/-- Digits as cells. -/
def ivs (ds : List Int) : List Value := ds.map (Value.int .i64)
theorem ivs_len (ds : List Int) : (ivs ds).length = ds.length := by simp [ivs]
theorem ivs_snoc (ds : List Int) (d : Int) : ivs (ds ++ [d]) = ivs ds ++ [.int .i64 d] := by simp [ivs]
def shr (n : Int) : Nat → Int
  | 0 => n
  | k + 1 => shr n k / 65536
def dgs (n : Int) : Nat → List Int
  | 0 => []
  | k + 1 => dgs n k ++ [shr n k % 65536]
theorem dgs_len (n : Int) : ∀ k, (dgs n k).length = k
  | 0 => rfl
  | k + 1 => by simp [dgs, dgs_len n k]
theorem shr_bd {n : Int} (h : U64 n) : ∀ k, 0 ≤ shr n k ∧ shr n k < 18446744073709551616
  | 0 => h
  | k + 1 => by
    have := shr_bd h k
    simp only [shr]; omega
theorem info_int : (Tryd.prog.info? 3).map (fun i => (i.zero, i.size, i.bytes)) = some (some (.int .i64 0), 1, 8) := by kernel_rfl
theorem und_ints : Tryd.prog.underlying 42 = some (.slice 3) := by kernel_rfl

set_option maxHeartbeats 800000 in
set_option maxRecDepth 100000 in
theorem digits_any (n : Int) (hn : U64 n) (w : World) :
    Calls Tryd.prog 50 #[.int .u64 n] w fun e w' => ∃ v, e = .returned v ∧ w'.ownsRow w.heap.size 3 1 v 4 (ivs (dgs n 4)) ∧ Below w.heap.size w w' := by
  have HN := hid1 hn
  clear hn
  obtain ⟨i0, hi, hz0, hz1, hz2⟩ := info_parts info_int
  go_enter Tryd.func50, Tryd.ntmps50
  go_wp2
  go_loopw [0, 3, 4] (fun a v i wr => ∃ (k : Nat), k ≤ 4 ∧ a = .int .u64 (shr n k) ∧ i = .int .i64 k ∧ wr.ownsRow w.heap.size 3 1 v k (ivs (dgs n k)) ∧ Below w.heap.size w wr)
    (fun _ _ i _ => 4 - (intOf i).toNat)
  case atStart => exact ⟨0, Nat.zero_le _, rfl, rfl, World.ownsRow_nil _ _ _ _, Below.refl _ _⟩
  case round =>
    obtain ⟨k, hk, rfl, rfl, hown, hnx⟩ := hrel
    have hsize := hnx.size
    by_cases hlt : k < 4
    · obtain ⟨b1, b2⟩ := shr_bd HN.out k
      have e1 : dgs n (k + 1) = dgs n k ++ [shr n k % 65536] := rfl
      have e2 : shr n (k + 1) = shr n k / 65536 := rfl
      have H1 := hid1 e1
      have H2 := hid1 e2
      clear e1 e2
      obtain ⟨s, hs⟩ : ∃ s, shr n k = s := ⟨_, rfl⟩
      rw [hs] at H1 H2 b1 b2 ⊢
      clear hs
      go_wp2_with (first
        | (at_builtin; refine wpList_append_own _ rfl _ _ 42 rfl w.heap.size 3 i0 (.int .i64 0) 1 8 und_ints hi hz0 hz1 hz2 rfl (by decide) _ _ _ rfl (hown.alloc _) ⟨wr.heap.size, 0, none⟩ 1 1 [.int .i64 (s % 65536)] rfl rfl (cell_one_new _ _ _) (fun x hx => by simp at hx; subst hx; rfl) (by unfold maxLen; omega) (by omega) (by simp; omega) ?_; intro v' w3 hown' hgrow3 hnil3))
      exact ⟨⟨k + 1, by omega, by rw [H2.out], by go_num, by rw [H1.out, ivs_snoc]; exact hown', (hnx.alloc hsize _).grown hgrow3 (by simp; omega) (fun q hq => (hown.lt q hq).1)⟩, by simp [intOf]; omega⟩
    · have hk4 : k = 4 := by omega
      subst hk4
      go_wp2
      go_ret
      exact ⟨_, rfl, hown, hnx⟩
