/- PACKAGE rank: Show. -/
import Derived.Test.YtfdkjckoelmgeaaDoorRS1
namespace Go.Proofs.YtfdkjckoelmgeaaDoor
open Go.RowKit

/-- A text made of bytes of its own. -/
theorem conv_ownR {w : World} {base : Nat} {v : Value} {l : List UInt8} (h : w.ownsRow base 5 1 v l.length (Lib.byteCells l)) : (convert 45 9 v).run Tryd.prog w = .ok (.string ⟨l.toArray⟩) w := by
  rcases h.2 with ⟨rfl, h0⟩ | ⟨g, cap, cur, rfl, _, _, _, _, _, _⟩
  · have : l = [] := List.eq_nil_of_length_eq_zero h0
    subst this
    exact run_convert_bytes_nil (P := Tryd.prog) w 45 5 Tryd.underlying45 Tryd.underlying5 0 0 9 Tryd.underlying9
  · refine run_convert_bytes_back (P := Tryd.prog) w 45 9 5 ⟨g, 0, none⟩ cap l Tryd.underlying45 Tryd.underlying5 Tryd.underlying9 (fun j hj => ?_)
    exact h.cells (g := g) rfl j _ (by simp [Lib.byteCells, hj])
/-- What Show writes. -/
def sT (T : List (List Int)) : List UInt8 := if cE T = 0 then shw T else []
abbrev LaidP (w : World) : Prop := Lib.TabIs Tryd.prog w "internal/strconv.uint64pow10" .u64 Lib.pow10Tab
set_option maxHeartbeats 1600000 in
set_option maxRecDepth 100000 in
theorem show_any (ao : Option Addr) (T : List (List Int)) (cap : Nat) (w : World) (h2 : T.length ≤ 9223372036854775807) (hr : ∀ r ∈ T, r.length ≤ 9223372036854775807) (h : Tn w ao T) (L : LaidP w) :
    Calls Tryd.prog 15 #[tbv ao T.length cap] w fun e w' => e = .returned (.tuple #[.string ⟨(sT T).toArray⟩, .int .i64 (cE T)]) ∧ Below w.heap.size w w' := by
  have CC : Hid (∀ X, Below w.heap.size w X → Calls Tryd.prog 14 #[tbv ao T.length cap] X fun e w' => e = .returned (.tuple #[.int .i64 (rV T), .int .i64 (cV T), .int .i64 (cE T)]) ∧ Below X.heap.size X w') := fun X hX => right_any ao T cap X h2 hr (h.below hX)
  unfold sT
  rcases cE_cases T with ⟨e1, e2, _⟩ | ⟨e1, e2⟩
  · rw [e1, e2] at CC
    rw [e1, if_neg (by decide)]
    clear h hr e1 e2
    generalize T.length = n at *
    generalize rV T = R at *
    go_enter Tryd.func15, Tryd.ntmps15
    go_wp2_with (go_at_call 14; refine (CC.out _ (bl_alloc (Below.refl _ _) _)).mono ?_; rintro e w1 ⟨rfl, hb1⟩; have B1 : Below w.heap.size w w1 := bl_step (bl_alloc (Below.refl _ _) _) hb1; clear hb1)
    go_ret2
    exact ⟨rfl, B1⟩
  · have eR : rV T = rg T T.length := if_pos e1
    rw [e1, eR] at CC
    rw [e1, if_pos rfl]
    obtain ⟨q1, q2, q3, q4, q5, q6⟩ := cnt_some e2
    have hrg := rg_bd e2 T.length (Nat.le_refl _)
    have HT := hid1 h
    have HL : Hid (∀ k, (hk : k < T.length) → (T[k]).length ≤ 256 ∧ ∀ x ∈ T[k], i64In x) := fun k hk => by
      have := cnt_in e2 _ (List.getElem_mem hk)
      exact ⟨by omega, this.2⟩
    have HS : Hid (∀ k, k ≤ T.length → (lns T k).length ≤ 2000000) := shw_len e2
    have HW : Hid (shw T = lns T T.length ++ lin 47 [rg T T.length, cV T]) := by show _ = _; unfold shw; rw [q4]
    have HP : Hid (Tp10 w.heap.size w) := Lib.tabBelow_of_tabIs L
    clear h hr e1 e2 q3 q4 eR L
    generalize cV T = V at *
    generalize shw T = SW at *
    obtain ⟨n, hn⟩ : ∃ n, T.length = n := ⟨_, rfl⟩
    have HN := hid1 hn
    rw [hn] at CC q1 q2 HS HW hrg ⊢
    clear hn h2
    generalize hR : rg T n = R at *
    clear hR
    go_enter Tryd.func15, Tryd.ntmps15
    go_wp2_with (go_at_call 14; refine (CC.out _ (bl_alloc (Below.refl _ _) _)).mono ?_; rintro e w1 ⟨rfl, hb1⟩; have B1 : Below w.heap.size w w1 := bl_step (bl_alloc (Below.refl _ _) _) hb1; have b0 := keepc hb1 (b := w.heap.size) (o := 0) (v := .slice ao n cap) (by simp [go_sem]); clear hb1)
    go_loopw [7, 22] (fun x y wr => ∃ k : Nat, k ≤ n ∧ y = .int .i64 k ∧ Hid (wr.ownsRow w.heap.size 5 1 x (lns T k).length (Lib.byteCells (lns T k))) ∧ Below w.heap.size w wr) (fun _ y _ => n - (intOf y).toNat)
    case atStart => exact ⟨0, Nat.zero_le _, rfl, World.ownsRow_nil _ _ _ _, B1⟩
    case round =>
      clear B1 b0
      obtain ⟨k, hk, rfl, hown, hap⟩ := hrel
      by_cases hlt : k < n
      · have hkT : k < T.length := by rw [HN.out]; exact hlt
        obtain ⟨g, o, ai, ci, rfl, d1, nm⟩ := HT.out.at hkT
        replace d1 := keepc hap d1
        obtain ⟨hl, hi⟩ := HL.out k hkT
        have hsl := HS.out k hk
        have hs : Hid (lns T (k + 1) = lns T k ++ lin 32 T[k]) := by
          show _ = _
          simp [lns, List.getD_eq_getElem?_getD, List.getElem?_eq_getElem hkT]
        generalize T[k] = r at *
        generalize lns T k = ys at *
        have HC : Hid (Calls Tryd.prog 30 #[u7, .int .u8 ((32 : UInt8).toNat : Int), .slice ai r.length ci] wr fun e w' => ∃ v', e = .returned v' ∧ w'.ownsRow w.heap.size 5 1 v' (ys ++ lin 32 r).length (Lib.byteCells (ys ++ lin 32 r)) ∧ Ap w.heap.size wr w') :=
          line_any w.heap.size u7 ys 32 ai r ci wr hap.size hown.out (by omega) hl hi (HP.out.on hap) (fun X hX => nm.below (hap.trans hX.bel))
        obtain ⟨m, em⟩ : ∃ m, r.length = m := ⟨_, rfl⟩
        rw [em] at d1 HC
        have ik : (k : Int) < (n : Int) := by omega
        have ik0 : (0 : Int) ≤ (k : Int) := by omega
        clear nm hi em hl
        go_wp2_with (go_at_call 30; refine HC.out.mono ?_; rintro e w2 ⟨v2, rfl, ho2, ha2⟩)
        refine ⟨⟨k + 1, by omega, by go_num, ?_, hap.trans ha2.bel⟩, by simp [intOf]; omega⟩
        show World.ownsRow _ _ _ _ _ _ _
        rw [hs.out]
        exact ho2
      · have hkN : k = n := by omega
        subst hkN
        have hsl := HS.out k hk
        generalize lns T k = ys at *
        have HC : Hid (Calls Tryd.prog 30 #[u7, .int .u8 ((47 : UInt8).toNat : Int), .slice (some ⟨wr.heap.size, 0, none⟩) 2 2] (wr.alloc (.cells #[.int .i64 R, .int .i64 V] 2)) fun e w' => ∃ v', e = .returned v' ∧ w'.ownsRow w.heap.size 5 1 v' (ys ++ lin 47 [R, V]).length (Lib.byteCells (ys ++ lin 47 [R, V])) ∧ Ap w.heap.size (wr.alloc (.cells #[.int .i64 R, .int .i64 V] 2)) w') :=
          line_any w.heap.size u7 ys 47 (some ⟨wr.heap.size, 0, none⟩) [R, V] 2 _ (by have := hap.size; simp; omega) (hown.out.alloc _) (by omega) (by simp) (fun z hz => by simp at hz; rcases hz with rfl | rfl <;> (constructor <;> omega)) (HP.out.on (hap.alloc hap.size _)) (fun X hX => by
            have h3 := hX.oth wr.heap.size _ (blkn _ _) (by simp) (fun c fz e => by injection e with _ e _; exact absurd e (by decide))
            intro j z hj
            refine ⟨wr.heap.size, 0, rfl, ?_⟩
            rw [Nat.zero_add, cell_of_row X wr.heap.size j _ _ _ h3]
            rcases j with _ | _ | j <;> simp at hj ⊢ <;> exact hj)
        go_wp2_with (first
          | (go_at_call 30; refine HC.out.mono ?_; rintro e w2 ⟨v2, rfl, ho2, ha2⟩; have hcv := conv_ownR ho2))
        go_ret2
        exact ⟨by rw [HW.out]; rfl, (hap.alloc hap.size _).trans ha2.bel⟩
end Go.Proofs.YtfdkjckoelmgeaaDoor
