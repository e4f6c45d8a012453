/- The document's cache: first. -/
import Derived.Test.YtpjcpikafpnmpaaAC2
namespace Go.Proofs.Ytpjcpikafpnmpaa
open Go.RowKit

/-- Without the one at a place. -/
def sk (i : Int) (L : List Re) : List Re := if i < 0 then L else L.eraseIdx i.toNat
theorem sk_len (i : Int) (L : List Re) : (sk i L).length ≤ L.length := by
  unfold sk
  split
  · exact Nat.le_refl _
  · exact List.length_eraseIdx_le _ _
theorem sk_step (i : Int) (R : List Re) (j : Nat) (y : Re) (h : R[j]? = some y) : sk i (R.take (j + 1)) = if (j : Int) = i then sk i (R.take j) else sk i (R.take j) ++ [y] := by
  have hj : j < R.length := (List.getElem?_eq_some_iff.1 h).1
  have hl : (R.take j).length = j := by rw [List.length_take]; omega
  unfold sk
  rw [List.take_add_one, h]
  show (if i < 0 then R.take j ++ [y] else (R.take j ++ [y]).eraseIdx i.toNat) = _
  by_cases h0 : i < 0
  · rw [if_pos h0, if_pos h0, if_neg (by omega)]
  · rw [if_neg h0, if_neg h0]
    by_cases he : (j : Int) = i
    · rw [if_pos he, List.eraseIdx_append_of_length_le (by omega), hl, show i.toNat - j = 0 by omega, List.eraseIdx_of_length_le (l := R.take j) (by omega)]
      exact List.append_nil _
    · rw [if_neg he]
      by_cases hlt : i.toNat < j
      · rw [List.eraseIdx_append_of_lt_length (by omega)]
      · rw [List.eraseIdx_append_of_length_le (by omega), hl, List.eraseIdx_of_length_le (l := [y]) (by simp; omega), List.eraseIdx_of_length_le (l := R.take j) (by omega)]
theorem sk_neg (L : List Re) : sk (-1) L = L := rfl
theorem sk_at (A C : List Re) (x : Re) : sk (A.length : Int) (A ++ x :: C) = A ++ C := by
  unfold sk
  rw [if_neg (by omega), Int.toNat_natCast, List.eraseIdx_append_of_length_le (Nat.le_refl _), Nat.sub_self]
  rfl
theorem new_ent (w : World) (x : Re) (bo : Option Addr) (bn bc : Nat) (hx : x.v = .slice bo bn bc) : (w.alloc (.cells #[.string x.k, .slice bo bn bc, .int .i64 x.a] 99)).ownsRow w.heap.size 99 3 (.slice (some ⟨w.heap.size, 0, none⟩) 1 1) 1 (rcs [x]) :=
  ⟨rfl, .inr ⟨w.heap.size, 1, _, rfl, Nat.le_refl _, heap_alloc_new w _, Nat.le_refl _, by decide, rfl, by rw [← hx]; rfl⟩⟩
def ef3 (k : ByteArray) (v : Value) (a : Int) : Nat → Value
  | 0 => .string k
  | 1 => v
  | _ => .int .i64 a
theorem ent_row (w : World) (k : ByteArray) (v : Value) (a : Int) : (w.alloc (.cells #[.string k, v, .int .i64 a] 99)).rowIs w.heap.size 99 3 (ef3 k v a) :=
  World.rowIs_alloc w _ _ _ (fun i hi => by rcases i with _ | _ | _ | i <;> first | rfl | (simp at hi; omega))
theorem own_sl {w : World} {M T k n : Nat} {v : Value} {xs : List Value} (h : w.ownsRow M T k v n xs) : ∃ ao cap, v = .slice ao n cap := by
  rcases h.2 with ⟨rfl, h0⟩ | ⟨g, cap, cur, rfl, _⟩
  · exact ⟨none, 0, by rw [h0]⟩
  · exact ⟨_, _, rfl⟩
set_option maxHeartbeats 3200000 in
set_option maxRecDepth 100000 in
theorem first_any (w : World) (T : Nat → Prop) (d : Nat) (rm h m : Int) (v : Value) (R : List Re) (r : Rv w T d rm h m v R) (hlen : R.length ≤ 4096) (x : Re) (bo : Option Addr) (bn bc : Nat) (hx : x.v = .slice bo bn bc) (i : Int) :
    Calls Try.prog 54 #[.pointer (some ⟨d, 0, none⟩), .agg #[.string x.k, .slice bo bn bc, .int .i64 x.a], .int .i64 i] w fun e w' => e = .returned (.tuple #[]) ∧ ∃ v' W, w' = W.setCell ⟨d, 1, none⟩ v' ∧ Below w.heap.size w W ∧ W.ownsRow w.heap.size 99 3 v' (x :: sk i R).length (rcs (x :: sk i R)) := by
  obtain ⟨n, en⟩ : ∃ n, R.length = n := ⟨_, rfl⟩
  obtain ⟨vo, vc, rfl, -, -, hat⟩ := r.el.sl_at
  have b1 := r.box.cell (i := 1) (by omega)
  have k1 := r.box.frozen 1
  have hd := r.box.lt
  have HA := hid1 hat
  have HN := hid1 en
  rw [en] at hlen b1
  dsimp only [rcf] at b1
  clear r hat en
  go_enter Try.func54, Try.ntmps54
  go_upto_region 2 with fail
  refine gen_world (fun X => Below w.heap.size w X ∧ X.ownsRow w.heap.size 99 3 (.slice (some ⟨w.heap.size + 1, 0, none⟩) 1 1) 1 (rcs [x])) ?_ ?_
  · refine ⟨bl_alloc (bl_alloc (Below.refl _ _) _) _, ?_⟩
    have := new_ent (w.alloc (.cells #[.string x.k, .slice bo bn bc, .int .i64 x.a] 99)) x bo bn bc hx
    rw [World.size_alloc] at this
    exact own_base this (Nat.le_succ _)
  rintro X ⟨bX, oX⟩
  have HX := hid1 (And.intro bX oX)
  have b1X := keepc bX b1
  clear bX oX
  go_wp2_with fail
  go_loopw [6, 7] (fun vl vj wr => ∃ j : Nat, j ≤ n ∧ vj = .int .i64 j ∧ wr.ownsRow w.heap.size 99 3 vl (x :: sk i (R.take j)).length (rcs (x :: sk i (R.take j))) ∧ Below w.heap.size w wr) (fun _ vj _ => n - (intOf vj).toNat)
  case atStart =>
    refine ⟨0, Nat.zero_le _, rfl, ?_, HX.out.1⟩
    have e : sk i (R.take 0) = [] := by
      have := sk_len i (R.take 0)
      exact List.length_eq_zero_iff.1 (by simpa using this)
    rw [e]
    exact HX.out.2
  case round =>
    clear HX b1X
    obtain ⟨j, hj, rfl, ow, bl⟩ := hrel
    have c1 := keepc bl b1
    by_cases hjn : j < n
    · have ij : (j : Int) < (n : Int) := by omega
      have ij0 : (0 : Int) ≤ (j : Int) := by omega
      obtain ⟨y, hy⟩ : ∃ y, R[j]? = some y := ⟨_, List.getElem?_eq_getElem (by rw [HN.out]; exact hjn)⟩
      have ks := sk_step i R j y hy
      obtain ⟨g, yo, yn, yc, rfl, _, hyv, d0, d1, d2⟩ := HA.out j y hy
      replace d0 := keepc bl d0
      replace d1 := keepc bl d1
      replace d2 := keepc bl d2
      have hsz : (x :: sk i (R.take j)).length ≤ 100000 := by
        have h1 := sk_len i (R.take j)
        rw [List.length_take] at h1
        simp only [List.length_cons]
        omega
      clear hy
      by_cases hji : (j : Int) = i
      · rw [if_pos hji] at ks
        have KS := hid1 ks
        clear ks
        subst hji
        go_wp2_with fail
        exact ⟨⟨j + 1, by omega, by go_num, by rw [KS.out]; exact ow, bl⟩, by simp [intOf]; omega⟩
      · rw [if_neg hji] at ks
        have KS := hid1 ks
        clear ks
        have al : Below wr.heap.size wr (wr.alloc (.cells #[.string y.k, .slice yo yn yc, .int .i64 y.a] 99)) := bl_alloc (Below.refl _ _) _
        have row := ent_row wr y.k (.slice yo yn yc) y.a
        have g0 := row.cell (i := 0) (by omega)
        have g1 := row.cell (i := 1) (by omega)
        have g2 := row.cell (i := 2) (by omega)
        dsimp only [ef3] at g0 g1 g2
        have hob : ∀ q, u6.ownBlock = some q → w.heap.size ≤ q := fun q e => (ow.lt q e).1
        have hzz : w.heap.size ≤ (wr.alloc (.cells #[.string y.k, .slice yo yn yc, .int .i64 y.a] 99)).heap.size := Nat.le_trans bl.size al.size
        have HB := hid1 (fun (w' : World) (g : (wr.alloc (.cells #[.string y.k, .slice yo yn yc, .int .i64 y.a] 99)).grownBy w' u6.ownBlock) => (bl_step bl al).grown g hzz hob)
        have SN := hid1 (own_block ow fun b e => al.block b (ow.lt b e).2)
        have HSZ := hid1 hsz
        clear ow bl row hsz hob
        go_wp2_with (at_builtin; refine app_ent rfl _ _ rfl w.heap.size u6 _ (by go_simp) SN.out wr.heap.size (by go_simp) y yo yn yc hyv g0 g1 g2 HSZ.out hzz ?_; intro v' w' s2 gb)
        exact ⟨⟨j + 1, by omega, by go_num, by rw [KS.out]; exact s2, HB.out _ gb⟩, by simp [intOf]; omega⟩
    · obtain rfl : j = n := by omega
      rw [List.take_of_length_le (by rw [HN.out]; exact Nat.le_refl _)] at ow
      obtain ⟨a6, c6, rfl⟩ := own_sl ow
      have k2 : wr.frozen? ⟨d, 1, none⟩ = false := (bl.frozen (p := ⟨d, 1, none⟩) hd).trans k1
      have HE := hid1 (And.intro bl ow)
      clear ow bl
      obtain ⟨q, hq⟩ : ∃ q, (x :: sk i R).length = q := ⟨_, rfl⟩
      rw [hq] at HE
      simp only [hq]
      go_wp2_with fail
      refine bodyPost_end (results_none rfl _ _ _) rfl ⟨rfl, _, _, rfl, HE.out.1, ?_⟩
      have e := HE.out.2
      rw [← hq] at e
      rw [← hq]
      exact e
end Go.Proofs.Ytpjcpikafpnmpaa
