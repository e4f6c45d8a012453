/- CHUNKS: begun. -/
import Derived.Test.YtbpglkhgggokcaaDoorCB1
import Derived.Lib.SlBytesConst
namespace Go.Proofs.YtbpglkhgggokcaaDoor
open Go.RowKit

theorem by_lit (w : World) (l : List Nat) (T : TypeId) (fr : Nat × Nat) (h : ∀ x ∈ l, x < 256) : By (w.alloc (.cells (u8s l).toArray T fr)) (some ⟨w.heap.size, 0, none⟩) l := fun k x hk => by
  refine ⟨w.heap.size, 0, rfl, ?_, h x (List.mem_of_getElem? hk)⟩
  rw [Nat.zero_add, World.cell?, heap_alloc_new]
  simp [u8s, hk]
theorem cs_one (w : World) (t : Nat) (ao : Option Addr) (l : List Nat) (c : Nat) (T : TypeId) (h : By w ao l) (ht : t < 4294967296) (hl : l.length ≤ 281474976710656) : Cs (w.alloc (.cells #[.int .u32 (t : Int), .slice ao l.length c] T)) (some ⟨w.heap.size, 0, none⟩) [(t, l)] := by
  intro j d hj
  rcases j with _ | j
  · simp at hj
    subst hj
    exact ⟨_, _, ao, c, rfl, by simp [go_sem], by simp [go_sem], h.keep (bl_alloc (Below.refl _ _) _), ht, hl⟩
  · simp at hj
theorem Ans.val {W : World} {z : Nat} {v : Value} {cs : List Ck} {gs : List Nat} (h : Ans W z v cs gs) : ∃ lo cp, v = .slice lo cs.length cp ∧ cs.length ≤ cp ∧ (lo = none → cs = []) := by
  rcases h.own.2 with ⟨e, e0⟩ | ⟨g, c, cur, e, _, _, hc, _⟩
  · exact ⟨none, 0, by rw [e, e0], by omega, fun _ => List.eq_nil_of_length_eq_zero e0⟩
  · exact ⟨_, _, e, hc, fun h => by simp at h⟩
theorem k_read : readE 9 (cont 9 [(7, [97, 98])]) = 0 := by decide +kernel
theorem k_val : readV (cont 9 [(7, [97, 98])]) = [(7, [97, 98])] := by decide +kernel
theorem k_tag : readE 8 (cont 9 [(7, [97, 98])]) = 82 := by decide +kernel
theorem k_sum : crc [49, 50, 51, 52, 53, 54, 55, 56, 57] = 3421780262 := by decide +kernel
theorem k_none : crc [] = 0 := by decide +kernel
theorem k_12 : (cont 9 [(7, [97, 98])])[12]? = some 7 := by decide +kernel
theorem k_24 : (cont 9 [(7, [97, 98])])[24]? = some 97 := by decide +kernel
theorem bys_two (w : World) (ao ap : Option Addr) (l m : List Nat) (c d : Nat) (t : TypeId) (h1 : By w ao l) (h2 : By w ap m) : Bys (w.alloc (.cells #[.slice ao l.length c, .slice ap m.length d] t)) (some ⟨w.heap.size, 0, none⟩) [l, m] := by
  intro j k hj
  rcases j with _ | _ | j
  · simp at hj
    subst hj
    exact ⟨_, _, ao, c, rfl, by simp [go_sem], h1.keep (bl_alloc (Below.refl _ _) _)⟩
  · simp at hj
    subst hj
    exact ⟨_, _, ap, d, rfl, by simp [go_sem], h2.keep (bl_alloc (Below.refl _ _) _)⟩
  · simp at hj
set_option maxHeartbeats 1600000 in
set_option maxRecDepth 100000 in
theorem begun_any (w : World) (LD : Laid w) :
    Calls Tryd.prog 4 #[] w fun e w' => e = .returned (.bool true) ∧ Below w.heap.size w w' := by
  have LL := hid1 LD
  clear LD
  go_enter Tryd.func4, Tryd.ntmps4
  have kc := fun (w : World) (C : Array Value) (n c : Nat) => Lib.run_convert_bytes_const (P := Tryd.prog) w 25 5 C n c und_u8s Tryd.underlying5
  go_wp2_with fail
  have B0 := bl_alloc (bl_alloc (Below.refl w.heap.size w) (.cells #[.int .u8 97, .int .u8 98] 5 (2, 3))) (.cells #[.int .u32 7, .slice (some ⟨w.heap.size, 0, none⟩) 2 2] 44)
  refine gen_calls (fun W => Below w.heap.size w W ∧ Cs W (some ⟨w.heap.size + 1, 0, none⟩) [(7, [97, 98])]) ⟨B0, ?_⟩ ?_
  · have h1 := by_lit w [97, 98] 5 (2, 3) (by decide)
    have h2 := cs_one (w.alloc (.cells (u8s [97, 98]).toArray 5 (2, 3))) 7 _ [97, 98] 2 44 h1 (by decide) (by decide)
    simpa [u8s] using h2
  · clear B0
    rintro W ⟨B0, C0⟩
    refine (write_good 9 (some ⟨w.heap.size + 1, 0, none⟩) 1 [(7, [97, 98])] W (LL.out.on B0) C0 (by decide) (by decide)).mono ?_
    rintro e w1 ⟨g, rfl, own1, hb1⟩
    have B1 := bl_step B0 hb1
    have Y1 := hid1 (own_by own1 (cont_lt 9 C0.ok))
    clear own1 hb1 B0 C0
    have e30 : szC [(7, [97, 98])] = 30 := rfl
    rw [e30]
    go_wp2_with fail
    have RD := hid1 (fun m W (h1 : Laid W) (h2 : By W (some ⟨g, 0, none⟩) (cont 9 [(7, [97, 98])])) => read_any m (some ⟨g, 0, none⟩) 30 (cont 9 [(7, [97, 98])]) W h1 h2 (by rw [cont_len]; decide) (by decide))
    have elen : (cont 9 [(7, [97, 98])]).length = 30 := by rw [cont_len]; rfl
    rw [elen] at RD
    refine (RD.out 9 w1 (LL.out.on B1) Y1.out).mono ?_
    rintro e w2 ⟨h0, -, hb2⟩
    obtain ⟨v, gs, rfl, an⟩ := h0 k_read
    rw [k_val] at an
    obtain ⟨lo, cp, rfl, hcp, -⟩ := an.val
    obtain ⟨-, cs2⟩ := an.cs
    have B2 := bl_step B1 hb2
    have C2 := hid1 cs2
    have Y2 := hid1 (Y1.out.keep hb2)
    clear an cs2 h0 hb2 hcp B1 Y1
    go_wp2_with fail
    refine (RD.out 8 w2 (LL.out.on B2) Y2.out).mono ?_
    rintro e w3 ⟨-, h0, hb3⟩
    rw [k_tag] at h0
    obtain rfl := h0 (by decide)
    have B3 := bl_step B2 hb3
    obtain ⟨gl, ol, ao, cap, rfl, c1, c2, b2, -, -⟩ := (C2.out.keep hb3) 0 _ rfl
    have Y3 := hid1 (Y2.out.keep hb3)
    have BB := hid1 b2
    clear h0 hb3 B2 Y2 C2 b2
    have c1' : w3.cell? ⟨gl, ol, none⟩ = some (.int .u32 7) := by simpa using c1
    have c2' : w3.cell? ⟨gl, ol + 1, none⟩ = some (.slice ao 2 cap) := by simpa using c2
    have zl := lt_of_cell c1'
    clear c1 c2
    go_wp2_with fail
    refine gen_calls (fun W => Below w.heap.size w W ∧ By W ao [97, 98] ∧ By W (some ⟨w3.heap.size, 0, none⟩) [97, 98] ∧ By W (some ⟨g, 0, none⟩) (cont 9 [(7, [97, 98])])) ⟨bl_alloc B3 _, BB.out.keep (bl_alloc (Below.refl _ _) _), by_lit w3 [97, 98] 5 (2, 3) (by decide), Y3.out.keep (bl_alloc (Below.refl _ _) _)⟩ ?_
    rintro W4 ⟨B4, y1, y2, y3⟩
    refine (same_any ao (some ⟨w3.heap.size, 0, none⟩) cap 2 [97, 98] [97, 98] W4 (by decide) y1 y2).mono ?_
    rintro e w5 ⟨rfl, n5, rfl⟩
    have B5 : Below w.heap.size w (W4.drewN n5) := bl_drewN B4 _
    have Y5 := hid1 (y3.drewN n5)
    clear B4 y1 y2 y3 B3 Y3 BB c1' c2' zl
    generalize W4.drewN n5 = w5 at *
    have kc2 : ∀ (w : World) (o : Obj) (C : Array Value) (n c : Nat), (convert 25 25 (.slice (some ⟨w.heap.size + 1, 0, none⟩) n c)).run Tryd.prog ((w.alloc o).alloc (.cells C 5)) = .ok (.slice (some ⟨w.heap.size + 1, 0, none⟩) n c) ((w.alloc o).alloc (.cells C 5 (C.size, C.size + 1))) := fun w o C n c => by
      have h := kc (w.alloc o) C n c
      simpa using h
    go_wp2_with fail
    refine gen_calls (fun W => Below w5.heap.size w5 W ∧ Bys W (some ⟨w5.heap.size + 1 + 1, 0, none⟩) [[49, 50, 51, 52, 53], [54, 55, 56, 57]]) ⟨bl_alloc (bl_alloc (bl_alloc (Below.refl _ _) _) _) _, ?_⟩ ?_
    · have h1 := by_lit w5 [49, 50, 51, 52, 53] 5 (5, 6) (by decide)
      have h2 := by_lit (w5.alloc (.cells (u8s [49, 50, 51, 52, 53]).toArray 5 (5, 6))) [54, 55, 56, 57] 5 (4, 5) (by decide)
      have h3 := bys_two _ _ _ _ _ 5 4 25 (h1.keep (bl_alloc (Below.refl _ _) (.cells (u8s [54, 55, 56, 57]).toArray 5 (4, 5)))) h2
      simpa [u8s] using h3
    · rintro W6 ⟨B6, y6⟩
      have BW := bl_step B5 B6
      have SM := sum_any (some ⟨w5.heap.size + 1 + 1, 0, none⟩) 2 [[49, 50, 51, 52, 53], [54, 55, 56, 57]] W6 (LL.out.on BW) (by decide) (fun l hl => by simp at hl; rcases hl with rfl | rfl <;> decide) y6
      have ec : crc (cat [[49, 50, 51, 52, 53], [54, 55, 56, 57]]) = 3421780262 := k_sum
      rw [ec] at SM
      refine SM.mono ?_
      rintro e w7 ⟨rfl, rfl⟩
      have Y7 := Y5.out.keep B6
      clear SM ec y6 Y5 B6 B5
      go_wp2_with fail
      have SN := sum_any none 0 [] w7 (LL.out.on BW) (by decide) (fun l hl => by simp at hl) (fun j l hj => by simp at hj)
      have en : crc (cat []) = 0 := k_none
      rw [en] at SN
      refine SN.mono ?_
      rintro e w8 ⟨rfl, rfl⟩
      obtain ⟨_, _, e1, q1, _⟩ := Y7 12 7 k_12
      obtain ⟨_, _, e2, q2, _⟩ := Y7 24 97 k_24
      injection e1 with e1
      injection e1 with e1 e1'
      injection e2 with e2
      injection e2 with e2 e2'
      subst e1 e1' e2 e2'
      rw [Nat.zero_add] at q1 q2
      clear SN en Y7
      go_wp2
      go_ret
      exact ⟨rfl, BW⟩
end Go.Proofs.YtbpglkhgggokcaaDoor
