/- CACHE: Forget. -/
import Derived.Test.YtpjcpikafpnmpaaAK18
namespace Go.Proofs.Ytpjcpikafpnmpaa
open Go.RowKit Go.MuLone Go.Shelf

theorem str_eqb (a b : ByteArray) : (a.toList == b.toList) = decide (a = b) := by
  rw [Lib.toList_data, Lib.toList_data, Bool.eq_iff_iff]
  simp only [beq_iff_eq, decide_eq_true_eq]
  exact ⟨fun h => ByteArray.ext (Array.toList_inj.1 h), fun h => by rw [h]⟩
/-- A key that begins so. -/
def pf (f s : ByteArray) : Bool := decide (f.size ≤ s.size) && decide (s.extract 0 f.size = f)
set_option maxHeartbeats 800000 in
set_option maxRecDepth 100000 in
theorem lite_any (s f : ByteArray) (w : World) : Calls Try.prog 52 #[.string s, .string f] w fun e w' => e = .returned (.bool (pf f s)) ∧ w' = w := by
  unfold pf
  by_cases h : f.size ≤ s.size
  · have h1 : (f.size : Int) ≤ (s.size : Int) := by omega
    have h2 : decide ((f.size : Int) ≤ (s.size : Int)) = true := by simpa using h
    rw [decide_eq_true h]
    go_enter Try.func52, Try.ntmps52
    go_wp2_with fail
    go_ret
    exact ⟨by show Ending.returned (.bool ((s.extract 0 f.size).toList == f.toList)) = _; rw [str_eqb, Bool.true_and], rfl⟩
  · have h1 : ¬ (f.size : Int) ≤ (s.size : Int) := by omega
    rw [decide_eq_false h]
    go_enter Try.func52, Try.ntmps52
    go_wp2_with fail
    go_ret
    exact ⟨rfl, rfl⟩
theorem pre_any (s f : ByteArray) (w : World) : Calls Try.prog 35 #[.string s, .string f] w fun e w' => e = .returned (.bool (pf f s)) ∧ w' = w := by
  have HL := hid1 (lite_any s f w)
  generalize pf f s = b at *
  go_enter Try.func35, Try.ntmps35
  go_wp2_with (go_at_call 52; refine HL.out.mono ?_; rintro e w' ⟨rfl, rfl⟩)
  go_ret
  exact ⟨rfl, rfl⟩
/-- What is left of the front of the row. -/
def lf (f : ByteArray) (L : List Ce) : List Ce := L.filter fun x => !pf f x.k
theorem lf_snoc (f : ByteArray) (L : List Ce) (x : Ce) : lf f (L ++ [x]) = if pf f x.k = true then lf f L else lf f L ++ [x] := by
  unfold lf
  rw [List.filter_append]
  by_cases h : pf f x.k = true <;> simp [h]
/-- Forget under way: the first i entries are dealt with. -/
structure FJ (S : Nat → Prop) (w : World) (p : Nat) (rm : Int) (bm : Nat) (h m : Int) (f : ByteArray) (L : List Ce) (b0 b1 rb i : Nat) (W : World) : Prop where
  ch : Ch W S p rm 1 bm h m (lf f (L.take i) ++ L.drop i)
  bp : BP S w W
  self : W.rowIs b0 24 1 (fun _ => .pointer (some ⟨p, 0, none⟩))
  fro : W.rowIs b1 9 1 (fun _ => .string f)
  it : W.rowIs rb 96 1 (fun _ => .pointer (some ⟨p, 4, none⟩))
theorem drop_at {L : List Ce} {i : Nat} (h : i < L.length) : L.drop i = L[i] :: L.drop (i + 1) := List.drop_eq_getElem_cons h
theorem hd_drop (L : List Ce) (i : Nat) : hd (L.drop i) none = nx (bl L) L.length i := by
  by_cases h : i < L.length
  · rw [drop_at h]
    simp [hd, nx, h, bl_lt h]
  · rw [List.drop_eq_nil_of_le (by omega)]
    simp [hd, nx, h]
theorem FJ.it1 {S : Nat → Prop} {w : World} {p : Nat} {rm : Int} {bm : Nat} {h m : Int} {f : ByteArray} {L : List Ce} {b0 b1 rb i : Nat} {W : World} (k : FJ S w p rm bm h m f L b0 b1 rb i W) : It W rb p (bl L) L.length i := by
  refine ⟨k.it.cell (i := 0) (by omega), fun e => ?_, fun hi => ?_⟩
  · subst e
    have := k.ch.rw.box.cell (i := 4) (by omega)
    dsimp only [cf] at this
    rw [show lf f (L.take 0) ++ L.drop 0 = L by simp [lf]] at this
    rwa [hd_nx] at this
  · have hs := ((seg_app _ _ none none).1 k.ch.rw.seg).2
    rw [drop_at hi] at hs
    have := hs.1.cell (i := 4) (by omega)
    dsimp only [ef] at this
    rw [hd_drop] at this
    rw [bl_lt hi]
    exact this
theorem FJ.put {S : Nat → Prop} {w : World} {p : Nat} {rm : Int} {bm : Nat} {h m : Int} {f : ByteArray} {L : List Ce} {b0 b1 rb i : Nat} {W W' : World} (k : FJ S w p rm bm h m f L b0 b1 rb i W) (hk : ∀ b : Nat, (∃ C t c, W.heap[b]? = some (Obj.cells C t c)) → W'.heap[b]? = W.heap[b]?) (hm : W'.heap[bm]? = W.heap[bm]?) (hb : BP S w W') : FJ S w p rm bm h m f L b0 b1 rb i W' :=
  ⟨k.ch.cells hk hm, hb, k.self.of_block (hk _ (row_cells k.self)), k.fro.of_block (hk _ (row_cells k.fro)), k.it.of_block (hk _ (row_cells k.it))⟩
end Go.Proofs.Ytpjcpikafpnmpaa
