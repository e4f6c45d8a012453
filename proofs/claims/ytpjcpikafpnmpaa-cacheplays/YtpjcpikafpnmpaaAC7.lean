/- The law's Roomy and Kept. -/
import Derived.Test.YtpjcpikafpnmpaaAC6
namespace Go.Proofs.Ytpjcpikafpnmpaa
open Go.RowKit

theorem info_u8 : (Try.prog.info? 5).map (fun i => (i.zero, i.size, i.bytes)) = some (some (.int .u8 0), 1, 1) := by kernel_rfl
/-- Bytes with marks behind them. -/
def ry (s : ByteArray) (i : Nat) : Int := if h : i < s.size then (s[i].toNat : Int) else 137 + i - s.size
def ryf (s : ByteArray) : Nat → Value := fun i => .int .u8 (ry s i)
/-- Under way: the first k are done. -/
def ryk (s : ByteArray) (k : Nat) : Nat → Value := fun i => if i < k then ryf s i else .int .u8 0
theorem ryk_step (s : ByteArray) (k : Nat) : (fun i => if i = k then ryf s k else ryk s k i) = ryk s (k + 1) := by
  funext i
  unfold ryk
  by_cases h : i = k
  · subst h; rw [if_pos rfl, if_pos (by omega)]
  · rw [if_neg h]
    by_cases h2 : i < k
    · rw [if_pos h2, if_pos (by omega)]
    · rw [if_neg h2, if_neg (by omega)]
theorem ry_bs {w : World} {g n m : Nat} {s : ByteArray} (r : w.rowIs g 5 m (ryf s)) (hn : s.size = n) (hm : n ≤ m) : Bs w (some ⟨g, 0, none⟩) s :=
  .inr ⟨g, 0, rfl, fun i hi => by rw [Nat.zero_add, r.cell (show i < m by omega)]; unfold ryf ry; rw [dif_pos hi]⟩
set_option maxHeartbeats 1600000 in
set_option maxRecDepth 100000 in
theorem roomy_any (w : World) (ao : Option Addr) (cap : Nat) (s : ByteArray) (hs : Bs w ao s) (hz : s.size ≤ 140737488355000) :
    Calls Try.prog 38 #[.slice ao s.size cap] w fun e w' => ∃ g, e = .returned (.slice (some ⟨g, 0, none⟩) s.size (s.size + 66)) ∧ w.heap.size ≤ g ∧ w'.rowIs g 5 (s.size + 66) (ryf s) ∧ Below w.heap.size w w' := by
  obtain ⟨i0, hi, hz0, hz1, hz2⟩ := info_parts info_u8
  obtain ⟨n, hn⟩ : ∃ n, s.size = n := ⟨_, rfl⟩
  obtain ⟨q, hq⟩ : ∃ q, n + 66 = q := ⟨_, rfl⟩
  have HS : Hid (∀ i, i < n → ∃ g o x, ao = some ⟨g, o, none⟩ ∧ w.cell? ⟨g, o + i, none⟩ = some (.int .u8 x) ∧ x = ry s i) := fun i hi => by
    rcases hs with h0 | ⟨g, o, rfl, h⟩
    · omega
    · exact ⟨g, o, _, rfl, h i (by omega), by unfold ry; rw [dif_pos (by omega)]⟩
  have HN := hid1 hn
  have HQ := hid1 hq
  have hqi : (n : Int) + 66 = (q : Int) := by omega
  have hq2 : q ≤ 140737488355328 := by omega
  rw [hn, hq]
  clear hs hn hz hq
  go_enter Try.func38, Try.ntmps38
  go_wp2_with (refine wpList_make_row _ rfl _ _ 28 rfl 5 i0 (.int .u8 0) und_bytes hi hz0 hz1 rfl .i64 .i64 q (by go_simp) (by go_simp) (by rw [hz2]; omega) (by omega) ?_; refine gen_list (fun W => W.rowIs w.heap.size 5 q (ryk s 0) ∧ Below w.heap.size w W) ⟨(World.rowIs_made w (.int .u8 0) q 5).congr fun k _ => by simp [ryk], bl_alloc (Below.refl _ _) _⟩ ?_; rintro X ⟨row0, bl0⟩)
  have H0 := hid1 (And.intro row0 bl0)
  clear row0 bl0
  go_loopw [5] (fun vi wr => ∃ i : Nat, i ≤ q ∧ vi = .int .i64 i ∧ wr.rowIs w.heap.size 5 q (ryk s i) ∧ Below w.heap.size w wr) (fun vi _ => q - (intOf vi).toNat)
  case atStart => exact ⟨0, Nat.zero_le _, rfl, H0.out⟩
  case round =>
    clear H0
    obtain ⟨i, hi', rfl, row, bl⟩ := hrel
    by_cases hiq : i < q
    · have ii : (i : Int) < (q : Int) := by omega
      have ii0 : (0 : Int) ≤ (i : Int) := by omega
      have cw := row.cell hiq
      have fw := row.frozen i
      have HR := hid1 (And.intro row bl)
      by_cases hin : i < n
      · obtain ⟨g, o, x, rfl, cx, hx⟩ := HS.out i hin
        have cx2 := keepc bl cx
        have hin1 : (i : Int) < (n : Int) := by omega
        have hgw : g ≠ w.heap.size := by have := lt_of_cell cx; omega
        have HX := hid1 hx
        clear row bl cx hx
        go_wp2_with fail
        refine ⟨⟨i + 1, by omega, by go_num, ((HR.out.1.set i _).set i _).congr fun j _ => ?_, bl_set (bl_set HR.out.2 (Nat.le_refl _) _) (Nat.le_refl _) _⟩, by simp [intOf]; omega⟩
        rw [← ryk_step s i]
        by_cases hji : j = i
        · subst hji; simp [ryf, HX.out]
        · simp [hji]
      · have hin1 : ¬ (i : Int) < (n : Int) := by omega
        clear row bl
        go_wp2_with fail
        refine ⟨⟨i + 1, by omega, by go_num, (HR.out.1.set i _).congr fun j _ => ?_, bl_set HR.out.2 (Nat.le_refl _) _⟩, by simp [intOf]; omega⟩
        rw [← ryk_step s i]
        by_cases hji : j = i
        · subst hji
          simp only [if_true, ryf]
          unfold ry
          rw [dif_neg (by rw [HN.out]; exact hin), HN.out]
        · simp [hji]
    · obtain rfl : i = q := by omega
      have HR := hid1 (And.intro row bl)
      have hn0 : (0 : Int) ≤ (n : Int) := by omega
      have hnq : (n : Int) ≤ (i : Int) := by omega
      clear row bl
      go_wp2_with fail
      go_ret
      exact ⟨w.heap.size, rfl, Nat.le_refl _, HR.out.1.congr fun j hj => by unfold ryk; rw [if_pos hj], HR.out.2⟩
set_option maxHeartbeats 1600000 in
set_option maxRecDepth 100000 in
theorem kept_any (w : World) (g n bc : Nat) (bo : Option Addr) (s : ByteArray) (hn : s.size = n) (hs : Bs w bo s) (r : w.rowIs g 5 (n + 66) (ryf s)) (hz : n ≤ 140737488355000) :
    Calls Try.prog 39 #[.slice (some ⟨g, 0, none⟩) n (n + 66), .slice bo n bc] w fun e w' => e = .returned (.bool true) ∧ Qt w w' := by
  have cv1 := conv_str (cap := n + 66) (ry_bs r hn (by omega))
  have cv2 := conv_str (cap := bc) hs
  rw [hn] at cv1 cv2
  have hbe : (s.toList == s.toList) = true := by rw [str_eqb]; exact decide_eq_true rfl
  obtain ⟨q, hq⟩ : ∃ q, n + 66 = q := ⟨_, rfl⟩
  have HR := hid1 r
  have HN := hid1 hn
  have hqi : (n : Int) + 66 = (q : Int) := by omega
  rw [hq] at cv1 HR
  rw [hq]
  clear r hn hs hq
  go_enter Try.func39, Try.ntmps39
  go_wp2_with fail
  go_loopw [7] (fun vi wr => ∃ i : Nat, n ≤ i ∧ i ≤ q ∧ vi = .int .i64 i ∧ Qt w wr) (fun vi _ => q - (intOf vi).toNat)
  case atStart => exact ⟨n, Nat.le_refl _, by omega, rfl, Qt.refl _⟩
  case round =>
    obtain ⟨i, hni, hi', rfl, qt⟩ := hrel
    by_cases hiq : i < q
    · have ii : (i : Int) < (q : Int) := by omega
      have ii0 : (0 : Int) ≤ (i : Int) := by omega
      have in0 : (n : Int) ≤ (i : Int) := by omega
      have cw := qt.cell (HR.out.cell hiq)
      have ev : ryf s i = .int .u8 (137 + i - n) := by
        unfold ryf ry
        rw [dif_neg (by rw [HN.out]; omega), HN.out]
      rw [ev] at cw
      clear ev
      go_wp2_with fail
      exact ⟨⟨i + 1, by omega, by omega, by go_num, qt⟩, by simp [intOf]; omega⟩
    · obtain rfl : i = q := by omega
      go_wp2_with fail
      go_ret
      exact ⟨rfl, qt⟩
end Go.Proofs.Ytpjcpikafpnmpaa
