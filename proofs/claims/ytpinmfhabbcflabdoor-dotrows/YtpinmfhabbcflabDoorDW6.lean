/- Unpack. -/
import Derived.Test.YtpinmfhabbcflabDoorDW5
namespace Go.Proofs.YtpinmfhabbcflabDoor
open Go.RowKit
attribute [local go_sem ↓] Go.wp_at_zero Go.wp_at_succ

theorem info_i8 : (Tryd.prog.info? 59).map (fun i => (i.zero, i.size, i.bytes)) = some (some (.int .i8 0), 1, 1) := by kernel_rfl
theorem und_i8s : Tryd.prog.underlying 37 = some (.slice 59) := by kernel_rfl
theorem But.refl' (g : Nat) (w : World) : But g w w := ⟨rfl, rfl, rfl, Nat.le_refl _, fun _ _ _ => rfl⟩
theorem But.drew' {g : Nat} {w w' : World} (h : But g w w') : But g w w'.drew := ⟨h.os, h.tape, h.output, h.size, h.block⟩
theorem But.step {g : Nat} {w W w' : World} (h : But g w W) (hb : Below W.heap.size W w') : But g w w' :=
  ⟨hb.os.trans h.os, hb.tape.trans h.tape, hb.output.trans h.output, Nat.le_trans h.size hb.size, fun k hk hne => (hb.block k (Nat.lt_of_lt_of_le hk h.size)).trans (h.block k hk hne)⟩
/-- Nothing older than w has turned, and of what wr has nothing but the block g. -/
def Bz (w : World) (g : Nat) (wr X : World) : Prop := Below w.heap.size w X ∧ But g wr X
theorem Bz.start {w wr : World} {g : Nat} (h : Below w.heap.size w wr) : Bz w g wr wr := ⟨h, But.refl' _ _⟩
theorem Bz.drew {w wr X : World} {g : Nat} (h : Bz w g wr X) : Bz w g wr X.drew := ⟨h.1.drew, h.2.drew'⟩
theorem Bz.step {w wr X Y : World} {g : Nat} (h : Bz w g wr X) (hb : Below X.heap.size X Y) : Bz w g wr Y := ⟨bl_step h.1 hb, h.2.step hb⟩
theorem Bz.set {w wr X : World} {g o : Nat} (h : Bz w g wr X) (hg : w.heap.size ≤ g) (v : Value) : Bz w g wr (X.setCell ⟨g, o, none⟩ v) := ⟨bl_set h.1 hg v, h.2.set v⟩
theorem kpq {w W X : World} {bx g t : Nat} {A B : Bt} (h1 : W.rowIs bx t 4 (qf A B)) (hne : bx ≠ g) (hb : Bz w g W X) :
    X.cell? ⟨bx, 0, none⟩ = some (.int .i64 A.n) ∧ X.cell? ⟨bx, 1, none⟩ = some (.slice A.ao A.m A.cap) ∧ X.cell? ⟨bx, 2, none⟩ = some (.int .i64 B.n) ∧ X.cell? ⟨bx, 3, none⟩ = some (.slice B.ao B.m B.cap) := by
  have r := hb.2.row hne h1
  exact ⟨q0 r, q1 r, q2 r, q3 r⟩
/-- The weights, as cells; the first k of them. -/
def wc (S M : Nat) : Nat → Value := fun j => .int .i8 (wt S M j)
def wcK (S M k : Nat) : Nat → Value := fun j => if j < k then wc S M j else .int .i8 0
theorem wcK_full {S M n j : Nat} (h : j < n) : wcK S M n j = wc S M j := by unfold wcK; rw [if_pos h]
theorem wcK_step {S M k j : Nat} : (if j = k then wc S M k else wcK S M k j) = wcK S M (k + 1) j := by
  unfold wcK
  by_cases e : j = k
  · subst e; simp
  · rw [if_neg e]
    by_cases h : j < k
    · rw [if_pos h, if_pos (by omega)]
    · rw [if_neg h, if_neg (by omega)]
theorem wc_put {w : World} {g n k S M t : Nat} {x : Int} (h : w.rowIs g t n (wcK S M k)) (e : x = wt S M k) : (w.setCell ⟨g, k, none⟩ (.int .i8 x)).rowIs g t n (wcK S M (k + 1)) := by
  subst e
  exact (h.set k _).congr fun j _ => wcK_step
theorem sub_bit {S M i : Nat} (h : S &&& M = S) (hi : S.testBit i = true) : M.testBit i = true := by
  have := congrArg (fun x => Nat.testBit x i) h
  simp only [Nat.testBit_and, hi, Bool.true_and] at this
  exact this
theorem wt_i8 {S M i : Nat} (h : S &&& M = S) : IntKind.i8.wrap (IntKind.i8.wrap (2 * ((S.testBit i).toNat : Int)) - (M.testBit i).toNat) = wt S M i := by
  unfold wt
  cases hs : S.testBit i
  · cases M.testBit i <;> rfl
  · rw [sub_bit h hs]; rfl
theorem wt_bd (S M i : Nat) : -1 ≤ wt S M i ∧ wt S M i ≤ 1 := by
  unfold wt; cases M.testBit i <;> cases S.testBit i <;> decide

set_option maxHeartbeats 1600000 in
set_option maxRecDepth 100000 in
theorem unpack_bad (A B : Bt) (w : World) (hA : Rw w A) (hB : Rw w B) (hd : dck A B ≠ 0) :
    Calls Tryd.prog 9 #[rwv A B] w fun e w' => e = .returned (.tuple #[.slice none 0 0, .int .i64 (dck A B)]) ∧ Below w.heap.size w w' := by
  have enter : ∀ W : World, Below w.heap.size w W → Calls Tryd.prog 7 #[rwv A B] W fun e w' => e = .returned (.int .i64 (dck A B)) ∧ Below W.heap.size W w' := fun W hW => dcheck_any A B W (hA.below hW) (hB.below hW)
  generalize dck A B = q at *
  go_enter Tryd.func9, Tryd.ntmps9
  go_wp2_with fail
  refine gen_calls (fun W => Below w.heap.size w W) (bl_alloc (Below.refl _ _) _) ?_
  intro W B0
  refine (enter W B0).mono ?_
  rintro e w1 ⟨rfl, hb1⟩
  clear enter
  go_wp2_with fail
  go_ret2
  exact ⟨rfl, bl_step B0 hb1⟩

set_option maxHeartbeats 1600000 in
set_option maxRecDepth 100000 in
theorem unpack_ok (A B : Bt) (n : Nat) (w : World) (hA : Rw w A) (hB : Rw w B) (hd : dck A B = 0) (hn : A.n = n) :
    Calls Tryd.prog 9 #[rwv A B] w fun e w' => ∃ g, e = .returned (.tuple #[.slice (some ⟨g, 0, none⟩) n n, .int .i64 0]) ∧ w.heap.size ≤ g ∧ w'.rowIs g 59 n (wc A.N B.N) ∧ Below w.heap.size w w' := by
  obtain ⟨i0, hi, hz0, hz1, hz2⟩ := info_parts info_i8
  have enter : ∀ W : World, Below w.heap.size w W → Calls Tryd.prog 7 #[rwv A B] W fun e w' => e = .returned (.int .i64 (dck A B)) ∧ Below W.heap.size W w' := fun W hW => dcheck_any A B W (hA.below hW) (hB.below hW)
  obtain ⟨n', e1, e2, e3, e4, e5, e6, e7, e8⟩ := dck_zero hd
  have : n' = n := by omega
  subst this
  have HA := hid1 hA
  have HB := hid1 hB
  have HS := hid1 e8
  have HD := hid1 hd
  have M1 := hid1 e4
  have M2 := hid1 e5
  have HN := hid1 e1
  clear hA hB e8 hd e4 e5 e1 e2 hn
  go_enter Tryd.func9, Tryd.ntmps9
  go_wp2_with fail
  refine gen_calls (fun W => Below w.heap.size w W ∧ W.rowIs w.heap.size 33 4 (qf A B)) ⟨bl_alloc (Below.refl _ _) _, q_new w A B _⟩ ?_
  rintro W ⟨B0, r1⟩
  refine (enter W B0).mono ?_
  rintro e w1 ⟨rfl, hb1⟩
  rw [HD.out]
  replace r1 := keepr hb1 r1
  replace B0 := bl_step B0 hb1
  clear hb1 enter
  have c0 := q0 r1
  rw [HN.out] at c0
  have l1 := r1.lt
  go_wp2_with (refine wpList_make_row _ rfl _ _ 37 rfl 59 i0 (.int .i8 0) und_i8s hi hz0 hz1 rfl .i64 .i64 n' rfl rfl (by rw [hz2]; omega) (by omega) ?_)
  have hrow := World.rowIs_made w1 (.int .i8 0) n' 59
  have B1 := bl_alloc B0 (.cells (madeCells #[.int .i8 0] n') 59)
  replace r1 := r1.alloc (.cells (madeCells #[.int .i8 0] n') 59)
  clear c0 B0
  obtain ⟨g, eg⟩ : ∃ g, w1.heap.size = g := ⟨_, rfl⟩
  rw [eg] at l1 hrow
  have g0 := hid1 B1.size
  rw [eg]
  have hne : w.heap.size ≠ g := by omega
  have hle : w.heap.size ≤ g := by omega
  go_loopw [18] (fun i wr => ∃ k : Nat, k ≤ n' ∧ i = .int .i64 k ∧ wr.rowIs g 59 n' (wcK A.N B.N k) ∧ wr.rowIs w.heap.size 33 4 (qf A B) ∧ Below w.heap.size w wr) (fun i _ => n' - (intOf i).toNat)
  case atStart => exact ⟨0, Nat.zero_le _, rfl, hrow.congr fun j _ => by simp [wcK], r1, B1⟩
  case round =>
    clear r1 B1 hrow eg g0
    obtain ⟨k, hk, rfl, hrow, r1, B0⟩ := hrel
    by_cases hlt : k < n'
    · have ik : (k : Int) < (n' : Int) := by omega
      have ik0 : (0 : Int) ≤ (k : Int) := by omega
      have fw := hrow.frozen k
      have cw := hrow.cell hlt
      have gl := hrow.lt
      have HV := hid1 (wt_i8 (i := k) HS.out)
      have CA : Hid (∀ X, Below w.heap.size w X → Calls Tryd.prog 27 #[A.v, .int .i64 k] X fun e w' => e = .returned (.int .i8 ((A.N.testBit k).toNat : Nat)) ∧ Below X.heap.size X w') := fun X hX => bit_any A n' k X hlt e3 M1.out (HA.out.below hX)
      have CB : Hid (∀ X, Below w.heap.size w X → Calls Tryd.prog 27 #[B.v, .int .i64 k] X fun e w' => e = .returned (.int .i8 ((B.N.testBit k).toNat : Nat)) ∧ Below X.heap.size X w') := fun X hX => bit_any B n' k X hlt e3 M2.out (HB.out.below hX)
      generalize hs : ((A.N.testBit k).toNat : Nat) = sb at *
      generalize hm : ((B.N.testBit k).toNat : Nat) = mb at *
      have HR := hid1 hrow
      have H1 := hid1 r1
      clear hrow r1 hs hm
      have BZ : Bz w g wr wr := Bz.start B0
      go_wp2_with fail
      go_region_held3 (fun X => X.cell? ⟨w.heap.size, 0, none⟩ = some (.int .i64 A.n) ∧ X.cell? ⟨w.heap.size, 1, none⟩ = some (.slice A.ao A.m A.cap) ∧ X.cell? ⟨w.heap.size, 2, none⟩ = some (.int .i64 B.n) ∧ X.cell? ⟨w.heap.size, 3, none⟩ = some (.slice B.ao B.m B.cap)) (((try dsimp only); (with_reducible refine kpq H1.out hne (w := w) ?_); repeat (first | (with_reducible assumption) | (with_reducible refine Bz.drew ?_) | (with_reducible refine Bz.set ?_ hle _) | (with_reducible refine Bz.step ?_ (by assumption)))))
        (first
        | (go_at_call 27; have tst := hb1; refine gen_calls (fun X => Bz w g wr X ∧ X.rowIs g 59 n' (wcK A.N B.N k)) ⟨(by repeat (first | (with_reducible assumption) | (with_reducible refine Bz.drew ?_) | (with_reducible refine Bz.step ?_ (by assumption)))), (by first | exact hr1 | exact hr1.drew)⟩ ?_; rintro X ⟨hX, hrX⟩; refine (CB.out X hX.1).mono ?_; rintro e y2 ⟨rfl, hb2⟩; have hr2 := keepr hb2 hrX; have cw2 := hr2.cell hlt; have fw2 := hr2.frozen k; have gl2 := hr2.lt)
        | (go_at_call 27; refine gen_calls (fun X => Bz w g wr X ∧ X.rowIs g 59 n' (wcK A.N B.N k)) ⟨(by repeat (first | (with_reducible assumption) | (with_reducible refine Bz.drew ?_) | (with_reducible refine Bz.step ?_ (by assumption)))), (by first | exact HR.out | exact HR.out.drew)⟩ ?_; rintro X ⟨hX, hrX⟩; refine (CA.out X hX.1).mono ?_; rintro e y1 ⟨rfl, hb1⟩; have hr1 := keepr hb1 hrX))
      go_wp2_with fail
      have hz := Bz.set (o := k) (hX.step hb2) hle (.int .i8 (IntKind.i8.wrap (IntKind.i8.wrap (2 * (sb : Int)) - mb)))
      exact ⟨⟨k + 1, by omega, by go_num, wc_put hr2 HV.out, hz.2.row hne H1.out, hz.1⟩, by simp [intOf]; omega⟩
    · have hkN : k = n' := by omega
      subst hkN
      have HR := hid1 hrow
      clear hrow
      go_wp2_with fail
      go_ret2
      exact ⟨g, rfl, hle, HR.out.congr fun j hj => wcK_full hj, B0⟩
end Go.Proofs.YtpinmfhabbcflabDoor
