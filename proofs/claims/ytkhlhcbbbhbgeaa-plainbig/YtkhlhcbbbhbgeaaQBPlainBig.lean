import Derived.Test.YtkhlhcbbbhbgeaaPL1
import Derived.Deep.OwnRows
import Derived.Deep.DeepCutAuto
import Derived.Laws.MakeOwn
import Derived.Test.YtkhlhcbbbhbgeaaNQ6
import Derived.Test.YtkhlhcbbbhbgeaaQAPlainBig
import Derived.Test.YtkhlhcbbbhbgeaaNP5
import Derived.Deep.RegionLaw
import Derived.StillTailTactics
import Derived.Maps.AppendAt
import Derived.Deep.RegionHeld3
import Derived.Deep.Onto
import Derived.Test.YtkhlhcbbbhbgeaaNP6
/- PACKAGE PLAIN: bytes as numbers with a sign. -/
namespace Go.Proofs.Ytkhlhcbbbhbgeaa.Nn
open Go.RowKit

theorem und_i64s : Try.prog.underlying 34 = some (.slice 2) := by kernel_rfl
theorem info_i64 : (Try.prog.info? 2).map (fun i => (i.zero, i.size, i.bytes)) = some (some (.int .i64 0), 1, 8) := by kernel_rfl
theorem gen_listp {P : Program} {ops : Array Oper} {Q : Exit → Act → World → Prop} {rest : List Oper} {a : Act} {W : World} (p : World → Prop) (hp : p W) (h : ∀ W', p W' → wpList P ops Q rest a W') : wpList P ops Q rest a W := h W hp
/-- A list of bytes lies in memory. -/
def RB (W : World) (ao : Option Addr) (m : Nat) (f : Nat → Int) : Prop := ∀ k, k < m → ∃ (g o : Nat), ao = some ⟨g, o, none⟩ ∧ W.cell? ⟨g, o + k, none⟩ = some (.int .u8 (f k)) ∧ 0 ≤ f k ∧ f k < 256
theorem RB.keep {W X : World} {ao : Option Addr} {m : Nat} {f : Nat → Int} (h : RB W ao m f) (hb : Below W.heap.size W X) : RB X ao m f := fun k hk => by
  obtain ⟨g, o, e, c, r⟩ := h k hk
  exact ⟨g, o, e, keepc hb c, r⟩
/-- A byte read with a sign. -/
def s8 (x : Int) : Int := if x < 128 then x else x - 256
def s8f (f : Nat → Int) (k j : Nat) : Value := if j < k then .int .i64 (s8 (f j)) else .int .i64 0
theorem s8_wrap {x : Int} (h0 : 0 ≤ x) (h1 : x < 256) : IntKind.i8.wrap x = s8 x := by
  unfold s8
  simp [IntKind.wrap, IntKind.signed, IntKind.bits]
  split <;> omega
set_option maxHeartbeats 1600000 in
set_option maxRecDepth 100000 in
theorem signed_any (ao : Option Addr) (n cap : Nat) (f : Nat → Int) (w : World) (hn : n ≤ 16777216) (h : RB w ao n f) :
    Calls Try.prog 26 #[.slice ao n cap] w fun e w' => e = .returned (.slice (some ⟨w.heap.size, 0, none⟩) n n) ∧ w'.rowIs w.heap.size 2 n (fun k => .int .i64 (s8 (f k))) ∧ Below w.heap.size w w' := by
  obtain ⟨i0, hi, hz0, hz1, hz2⟩ := info_parts info_i64
  have H := hid1 h
  clear h
  go_enter Try.func26, Try.ntmps26
  go_wp2_with ((refine wpList_make_row _ rfl _ _ 34 rfl 2 i0 (.int .i64 0) und_i64s hi hz0 hz1 rfl .i64 .i64 n (by go_simp) (by go_simp) (by rw [hz2]; omega) (by omega) ?_; refine gen_listp (fun W => Below w.heap.size w W ∧ W.rowIs w.heap.size 2 n (s8f f 0)) ⟨bl_alloc (Below.refl _ _) _, (World.rowIs_made w (.int .i64 0) n 2).congr fun k _ => by simp [s8f]⟩ ?_; rintro W1 ⟨B1, hrow⟩))
  go_loopw [11] (fun i wr => ∃ k : Nat, k ≤ n ∧ i = .int .i64 k ∧ wr.rowIs w.heap.size 2 n (s8f f k) ∧ Below w.heap.size w wr) (fun i _ => n - (intOf i).toNat)
  case atStart => exact ⟨0, Nat.zero_le _, rfl, hrow, B1⟩
  case round =>
    clear hrow B1
    obtain ⟨k, hk, rfl, hrow, hnx⟩ := hrel
    have ik0 : (0 : Int) ≤ (k : Int) := by omega
    by_cases hlt : k < n
    · have ik : (k : Int) < (n : Int) := by omega
      obtain ⟨g, o, rfl, c, r0, r1⟩ := (H.out.keep hnx) k hlt
      have fw := hrow.frozen k
      have cw := hrow.cell hlt
      have zg : ¬ g = w.heap.size := by
        obtain ⟨g', o', e, c', _⟩ := H.out k hlt
        injection e with e
        injection e with e1 e2
        subst e1
        exact Nat.ne_of_lt (block_lt_of_cell c')
      have e8 := s8_wrap r0 r1
      have HS : Hid (s8 (f k) = s8 (f k)) := hid1 rfl
      obtain ⟨y, ey⟩ : ∃ y, s8 (f k) = y := ⟨_, rfl⟩
      have by1 : -128 ≤ y ∧ y < 128 := by rw [← ey]; unfold s8; split <;> omega
      have ew : wrap64 y = y := by unfold wrap64; omega
      rw [ey] at e8
      have EY := hid1 ey
      clear ey HS
      obtain ⟨x, ex⟩ : ∃ x, f k = x := ⟨_, rfl⟩
      rw [ex] at c e8
      have EX := hid1 ex
      clear ex
      have HH := hid1 hrow
      clear hrow
      go_wp2_with fail
      refine ⟨⟨k + 1, by omega, by go_num, (HH.out.set k (.int .i64 y)).congr fun j _ => ?_, bl_set hnx (by omega) _⟩, by simp [intOf]; omega⟩
      unfold s8f
      by_cases e : j = k
      · subst e
        rw [if_pos rfl, if_pos (by omega), EY.out]
      · rw [if_neg e]
        by_cases h : j < k
        · rw [if_pos h, if_pos (by omega)]
        · rw [if_neg h, if_neg (by omega)]
    · obtain rfl : k = n := by omega
      have HH := hid1 hrow
      clear hrow
      go_wp2
      go_ret
      exact ⟨rfl, HH.out.congr fun j hj => by unfold s8f; rw [if_pos hj], hnx⟩
end Go.Proofs.Ytkhlhcbbbhbgeaa.Nn
/- PACKAGE PLAIN: elems, room, together. -/
namespace Go.Proofs.Ytkhlhcbbbhbgeaa.Nn
open Go.RowKit

set_option maxHeartbeats 800000 in
set_option maxRecDepth 100000 in
theorem pelems_any (h v c : Int) (w : World) :
    Calls Try.prog 24 #[shp h v c] w fun e w' => e = .returned (.int .i64 (elN h v c)) ∧ Below w.heap.size w w' := by
  go_enter Try.func24, Try.ntmps24
  go_wp2_with fail
  refine gen_calls (fun W' => Below w.heap.size w W') (bl_alloc (Below.refl _ _) _) ?_
  intro W B0
  refine (elems_any h v c _).mono ?_
  rintro e w1 ⟨rfl, hb⟩
  have B1 := bl_step B0 hb
  clear hb B0
  go_wp2
  go_ret
  exact ⟨rfl, B1⟩
theorem el_bd (h v c : Int) : 0 ≤ elN h v c ∧ elN h v c ≤ 16777216 := by
  unfold elN
  split
  · rename_i k
    obtain ⟨s, b⟩ := chk_zero k
    have := mul3 s
    omega
  · omega
set_option maxHeartbeats 800000 in
set_option maxRecDepth 100000 in
/-- Room for an output: none of it used. -/
theorem room_any (h v c : Int) (n : Nat) (hn : elN h v c = (n : Int)) (w : World) :
    Calls Try.prog 43 #[shp h v c] w fun e w' => ∃ g, e = .returned (.slice (some ⟨g, 0, none⟩) 0 n) ∧ w'.ownsRow w.heap.size 2 1 (.slice (some ⟨g, 0, none⟩) 0 n) 0 [] ∧ Below w.heap.size w w' := by
  obtain ⟨i0, hi, hz0, hz1, hz2⟩ := info_parts info_i64
  have HN := hid1 hn
  have bn : n ≤ 16777216 := by have := el_bd h v c; omega
  clear hn
  go_enter Try.func43, Try.ntmps43
  go_wp2_with fail
  refine gen_calls (fun W' => Below w.heap.size w W') (bl_alloc (Below.refl _ _) _) ?_
  intro W B0
  refine (pelems_any h v c _).mono ?_
  rw [HN.out]
  rintro e w1 ⟨rfl, hb⟩
  have B1 := bl_step B0 hb
  have z1 := B1.size
  clear hb B0
  obtain ⟨w2, mk, own, gr⟩ := run_make_own (P := Try.prog) w1 w.heap.size 34 2 i0 (.int .i64 0) 1 und_i64s hi hz0 hz1 .i64 .i64 n (by rw [hz2]; omega) (by unfold maxLen; omega) z1
  have OW := hid1 own
  have B2 : Below w.heap.size w w2 := B1.grown gr z1 (fun q hq => by cases hq)
  clear own gr z1
  go_wp2
  go_ret
  exact ⟨_, rfl, OW.out, B2⟩
/-- A list of shapes lies in memory. -/
def RS (W : World) (ao : Option Addr) (m : Nat) (fh fv fc : Nat → Int) : Prop := ∀ k, k < m → ∃ (g o : Nat), ao = some ⟨g, o, none⟩ ∧ Sh W g (o + k * 3) (fh k) (fv k) (fc k)
theorem RS.keep {W X : World} {ao : Option Addr} {m : Nat} {fh fv fc : Nat → Int} (h : RS W ao m fh fv fc) (hb : Below W.heap.size W X) : RS X ao m fh fv fc := fun k hk => by
  obtain ⟨g, o, e, c⟩ := h k hk
  exact ⟨g, o, e, c.keep hb⟩
def toV (fh fv fc : Nat → Int) : Nat → Int
  | 0 => 0
  | k + 1 => toV fh fv fc k + elN (fh k) (fv k) (fc k)
theorem to_bd (fh fv fc : Nat → Int) : ∀ k : Nat, 0 ≤ toV fh fv fc k ∧ toV fh fv fc k ≤ 16777216 * (k : Int)
  | 0 => by simp [toV]
  | k + 1 => by
    have := to_bd fh fv fc k
    have := el_bd (fh k) (fv k) (fc k)
    unfold toV
    omega
theorem blk_lt {W : World} {b o : Nat} {v : Value} (h : W.cell? ⟨b, o, none⟩ = some v) : b < W.heap.size := World.block_lt_of_cell? W ⟨b, o, none⟩ h
set_option maxHeartbeats 1600000 in
set_option maxRecDepth 100000 in
theorem together_any (ao : Option Addr) (m cap : Nat) (fh fv fc : Nat → Int) (w : World) (hm : m ≤ 4096) (h : RS w ao m fh fv fc) :
    Calls Try.prog 13 #[.slice ao m cap] w fun e w' => e = .returned (.int .i64 (toV fh fv fc m)) ∧ Below w.heap.size w w' := by
  have H := hid1 h
  clear h
  go_enter Try.func13, Try.ntmps13
  go_wp2
  go_loopw [3, 8] (fun t i wr => ∃ (k : Nat) (v : Int), k ≤ m ∧ i = .int .i64 k ∧ t = .int .i64 v ∧ Hid (v = toV fh fv fc k) ∧ Below w.heap.size w wr) (fun _ i _ => m - (intOf i).toNat)
  case atStart => exact ⟨0, 0, Nat.zero_le _, rfl, rfl, hid1 rfl, Below.refl _ _⟩
  case round =>
    obtain ⟨k, v, hk, rfl, rfl, HV, hnx⟩ := hrel
    rename World => V
    have ik0 : (0 : Int) ≤ (k : Int) := by omega
    by_cases hlt : k < m
    · have ik : (k : Int) < (m : Int) := by omega
      obtain ⟨g, o, rfl, c0, c1, c2⟩ := (H.out.keep hnx) k hlt
      have zz := blk_lt c0
      have b0 := to_bd fh fv fc k
      rw [← HV.out] at b0
      have b1 := el_bd (fh k) (fv k) (fc k)
      have HN : Hid (v + elN (fh k) (fv k) (fc k) = toV fh fv fc (k + 1)) := hid1 (by rw [HV.out]; rfl)
      have HE := hid1 (fun w => pelems_any (fh k) (fv k) (fc k) w)
      obtain ⟨x, ex⟩ : ∃ x, elN (fh k) (fv k) (fc k) = x := ⟨_, rfl⟩
      rw [ex] at b1 HN HE
      have e1 : wrap64 (v + x) = v + x := by unfold wrap64; omega
      clear ex b0 b1
      go_wp2_with fail
      refine gen_calls (fun W' => Below w.heap.size w W') (bl_alloc hnx _) ?_
      intro W B0
      clear c0 c1 c2 zz hnx
      refine (HE.out _).mono ?_
      rintro e w1 ⟨rfl, hb⟩
      have B1 := bl_step B0 hb
      clear hb B0
      go_wp2_with fail
      exact ⟨⟨k + 1, _, by omega, by go_num, rfl, hid1 (e1.trans HN.out), B1⟩, by simp [intOf]; omega⟩
    · obtain rfl : k = m := by omega
      go_wp2
      go_ret
      exact ⟨by rw [HV.out]; rfl, hnx⟩
end Go.Proofs.Ytkhlhcbbbhbgeaa.Nn
/- PACKAGE PLAIN: what a sum becomes. -/
namespace Go.Proofs.Ytkhlhcbbbhbgeaa.Nn
open Go.RowKit

/-- What the sum x of the output k becomes. -/
def beV (L : Ly) (k : Nat) (x : Int) : Int := if 0 < L.mb then x + L.bs k else if Wd.plV (L.ns k 0) (L.ns k 1) (L.ns k 2) (L.ns k 3) (L.ns k 4) (L.ns k 5) (L.ns k 6) (L.ns k 7) x = true then 1 else -1
set_option maxHeartbeats 1600000 in
set_option maxRecDepth 100000 in
/-- A logit. -/
theorem become_bias (L : Ly) (k : Nat) (x : Int) (w : World) (hL : Lst w L) (hk : k < L.mb) (hx : -4611686018427387904 ≤ x ∧ x ≤ 4611686018427387904) (hb : -4611686018427387000 ≤ L.bs k ∧ L.bs k ≤ 4611686018427387000) :
    Calls Try.prog 73 #[lyv L, .int .i64 k, .int .i64 x] w fun e w' => e = .returned (.int .i64 (x + L.bs k)) ∧ Below w.heap.size w w' := by
  obtain ⟨g, o, ea, c0⟩ := hL.2.2.1 k hk
  have hk0 : (0 : Int) ≤ (k : Int) := by omega
  have hk1 : (k : Int) < (L.mb : Int) := by omega
  have h0 : 0 < L.mb := by omega
  have h1 : (0 : Int) < (L.mb : Int) := by omega
  have e1 : wrap64 (x + L.bs k) = x + L.bs k := by unfold wrap64; omega
  have zz := lt_of_cell c0
  clear hL hx hb
  go_enter Try.func73, Try.ntmps73
  go_wp2_with fail
  go_ret
  exact ⟨by show Ending.returned (.int .i64 (wrap64 (x + L.bs k))) = _; rw [e1], bl_alloc (Below.refl _ _) _⟩
set_option maxHeartbeats 1600000 in
set_option maxRecDepth 100000 in
/-- 1 or -1. -/
theorem become_norm (L : Ly) (k : Nat) (x : Int) (w : World) (hL : Lst w L) (hb : L.mb = 0) (hk : k < L.mn) :
    Calls Try.prog 73 #[lyv L, .int .i64 k, .int .i64 x] w fun e w' => e = .returned (.int .i64 (beV L k x)) ∧ Below w.heap.size w w' := by
  obtain ⟨g, o, ea, c0, c1, c2, c3, c4, c5, c6, c7⟩ := hL.2.1 k hk
  have hk0 : (0 : Int) ≤ (k : Int) := by omega
  have hk1 : (k : Int) < (L.mn : Int) := by omega
  have zz := lt_of_cell c0
  have HP := hid1 (fun w => Wd.fplus_any (L.ns k 0) (L.ns k 1) (L.ns k 2) (L.ns k 3) (L.ns k 4) (L.ns k 5) (L.ns k 6) (L.ns k 7) x w)
  obtain ⟨p, ep⟩ : ∃ p, Wd.plV (L.ns k 0) (L.ns k 1) (L.ns k 2) (L.ns k 3) (L.ns k 4) (L.ns k 5) (L.ns k 6) (L.ns k 7) x = p := ⟨_, rfl⟩
  obtain ⟨q, eq⟩ : ∃ q, Wd.plE (L.ns k 0) (L.ns k 1) (L.ns k 2) (L.ns k 3) (L.ns k 4) (L.ns k 5) (L.ns k 6) (L.ns k 7) x = q := ⟨_, rfl⟩
  rw [ep, eq] at HP
  have HB : Hid (beV L k x = if p = true then 1 else -1) := hid1 (by unfold beV; rw [if_neg (by omega), ep])
  rw [HB.out]
  clear hL ep eq HB
  go_enter Try.func73, Try.ntmps73
  go_wp2_with fail
  refine gen_calls (fun W' => Below w.heap.size w W') (bl_alloc (Below.refl _ _) _) ?_
  intro W B0
  clear c0 c1 c2 c3 c4 c5 c6 c7 zz
  refine (HP.out _).mono ?_
  rintro e w1 ⟨rfl, hx⟩
  have B1 := bl_step B0 hx
  clear hx B0
  cases p <;> (
    go_wp2_with fail
    go_ret
    exact ⟨rfl, B1⟩)
theorem become_any (L : Ly) (k : Nat) (x : Int) (w : World) (hL : Lst w L) (h : (0 < L.mb ∧ k < L.mb ∧ (-4611686018427387904 ≤ x ∧ x ≤ 4611686018427387904) ∧ (-4611686018427387000 ≤ L.bs k ∧ L.bs k ≤ 4611686018427387000)) ∨ (L.mb = 0 ∧ k < L.mn)) :
    Calls Try.prog 73 #[lyv L, .int .i64 k, .int .i64 x] w fun e w' => e = .returned (.int .i64 (beV L k x)) ∧ Below w.heap.size w w' := by
  rcases h with ⟨h0, h1, h2, h3⟩ | ⟨h0, h1⟩
  · have e : beV L k x = x + L.bs k := by unfold beV; rw [if_pos h0]
    rw [e]
    exact become_bias L k x w hL h1 h2 h3
  · exact become_norm L k x w hL h0 h1
end Go.Proofs.Ytkhlhcbbbhbgeaa.Nn
/- PLAIN: what each output of a layer makes of what it sees, laid behind what is there. -/
namespace Go.Proofs.Ytkhlhcbbbhbgeaa.Nn
open Go.RowKit

theorem followsP : Try.prog.follows .mixedOrders = true := by kernel_rfl
theorem still_tailP {id : Nat} {Q : Exit → Act → World → Prop} {a : Act} {w : World} {l : List Oper} (n : Nat) (hB : Region.lexTailB .any l.toArray n = true)
    (h : wpStill Try.prog l.toArray w.drew (fun a' => wpList Try.prog l.toArray Q (l.drop n) a' w.drew) (l.take n) a) : (Code.region id l.toArray true).wp Try.prog Q a w := wp_region_still_tail n followsP hB h
def i64L (l : List Int) : List Value := l.map (Value.int .i64)
theorem i64L_snoc (l : List Int) (x : Int) : i64L (l ++ [x]) = i64L l ++ [.int .i64 x] := by simp [i64L]
/-- One number appended to a list of one's own. -/
theorem app_i64 {ops : Array Oper} {rest : List Oper} {o : Oper} {a : Act} {Q : Exit → Act → World → Prop} {w : World} (hgd : o.guard = none) (s x : Operand)
    (ho : o.op = .call { callee := .builtin .append, args := #[s, x], argTypes := #[34, 34] }) (base : Nat) (v : Value) (l : List Int) (n : Nat) (hs : a.eval s = v) (hown : w.ownsRow base 2 1 v n (i64L l))
    (g : Nat) (y : Int) (cb : Nat) (hx : a.eval x = .slice (some ⟨g, 0, none⟩) 1 cb) (hr : w.cell? ⟨g, 0, none⟩ = some (.int .i64 y)) (hM : n ≤ 1000000000) (hb : base ≤ w.heap.size)
    (h : ∀ v' w', w'.ownsRow base 2 1 v' (n + 1) (i64L (l ++ [y])) → w.grownBy w' v.ownBlock → (v'.ownBlock = v.ownBlock ∨ v'.ownBlock = some w.heap.size) → wpList Try.prog ops Q rest (a.put o.dst v') w') : wpList Try.prog ops Q (o :: rest) a w := by
  obtain ⟨i0, hi, hz0, hz1, hz2⟩ := info_parts info_i64
  refine wpList_append_own_at w hgd s x _ ho base 2 i0 (.int .i64 0) 1 8 und_i64s hi hz0 hz1 hz2 rfl (by decide) v n (i64L l) hs hown ⟨g, 0, none⟩ 1 cb [.int .i64 y] hx rfl
    (fun j u hu => ?_) (fun u hu => by simp at hu; subst hu; rfl) (by unfold maxLen; omega) (by omega) hb ?_
  · rcases j with _ | j
    · simp at hu; subst hu; exact hr
    · simp at hu
  · intro v' w' h1 h2 _ h3
    exact h v' w' (by rw [i64L_snoc]; exact h1) h2 h3
theorem step_appP {ops : Array Oper} {o : Oper} {a : Act} {w : World} {K : Act → World → Prop} {Q : Exit → Act → World → Prop} {E : Prop} (hgd : o.guard = none) (s x : Operand)
    (ho : o.op = .call { callee := .builtin .append, args := #[s, x], argTypes := #[34, 34] }) (base : Nat) (v : Value) (l : List Int) (n : Nat) (hs : a.eval s = v) (hown : w.ownsRow base 2 1 v n (i64L l))
    (g : Nat) (y : Int) (cb : Nat) (hx : a.eval x = .slice (some ⟨g, 0, none⟩) 1 cb) (hr : w.cell? ⟨g, 0, none⟩ = some (.int .i64 y)) (hM : n ≤ 1000000000) (hb : base ≤ w.heap.size)
    (h : ∀ v' w', w'.ownsRow base 2 1 v' (n + 1) (i64L (l ++ [y])) → w.grownBy w' v.ownBlock → (v'.ownBlock = v.ownBlock ∨ v'.ownBlock = some w.heap.size) → K (a.put o.dst v') w') : if Region.wanted o (yielded ops a.tmps) = true then Oper.wp Try.prog o a w K Q else E := by
  have hw : Region.wanted o (yielded ops a.tmps) = true := by simp [Region.wanted, hgd]
  rw [if_pos hw]
  obtain ⟨i0, hi, hz0, hz1, hz2⟩ := info_parts info_i64
  obtain ⟨v', w', hr2, h2, h3, h4, h5⟩ := run_append_own_at (P := Try.prog) w base 34 o.type 2 i0 (.int .i64 0) 1 8 und_i64s hi hz0 hz1 hz2 rfl (by decide) v n (i64L l) hown ⟨g, 0, none⟩ 1 cb [.int .i64 y] rfl
    (fun j u hu => by
      rcases j with _ | j
      · simp at hu; subst hu; exact hr
      · simp at hu) (fun u hu => by simp at hu; subst hu; rfl) (by unfold maxLen; omega) (by omega) hb
  unfold Oper.wp execOp
  simp only [ho, resolve, invoke, builtin, Sem.run_bind, Sem.run_pure, Result.andThen_ok, List.map_toArray, List.map_cons, List.map_nil, hs, hx, hr2]
  exact h v' w' (by rw [i64L_snoc]; exact h2) h3 h5
theorem gr_refl (w : World) (q : Option Nat) : w.grownBy w q := ⟨rfl, rfl, rfl, Nat.le_refl _, fun _ _ _ => rfl⟩
theorem gr_below {w x y : World} {q : Option Nat} (h : w.grownBy x q) (hb : Below x.heap.size x y) : w.grownBy y q :=
  ⟨hb.os.trans h.os, hb.tape.trans h.tape, hb.output.trans h.output, Nat.le_trans h.size hb.size, fun k hk hne => (hb.block k (Nat.lt_of_lt_of_le hk h.size)).trans (h.block k hk hne)⟩
theorem gr_step {w x y : World} {q r : Option Nat} (h : w.grownBy x q) (hb : x.grownBy y r) (hr : r = q ∨ ∃ k, r = some k ∧ w.heap.size ≤ k) : w.grownBy y q :=
  ⟨hb.os.trans h.os, hb.tape.trans h.tape, hb.output.trans h.output, Nat.le_trans h.size hb.size, fun k hk hne => (hb.block k (Nat.lt_of_lt_of_le hk h.size) (fun e => by
    rcases hr with hr | ⟨j, hr, hj⟩
    · exact hne (e.trans hr)
    · rw [hr] at e; cases e; omega)).trans (h.block k hk hne)⟩
theorem own_bl {w x : World} {base e size n : Nat} {v : Value} {xs : List Value} (h : w.ownsRow base e size v n xs) (hb : Below w.heap.size w x) : x.ownsRow base e size v n xs :=
  h.kept (row := none) ⟨hb.os, hb.tape, hb.output, hb.size, fun k hk _ => hb.block k hk⟩ (by cases hv : v.ownBlock; exact .inl rfl; exact .inr (by simp))
/-- What the outputs of a layer make of what they see. -/
def ouV (L : Ly) (F : Nat) (x : Nat → Int) (k : Nat) : Int := beV L k (smV (fun j => L.ws (k * F + j)) x F)
def ouL (L : Ly) (F : Nat) (x : Nat → Int) (K : Nat) : List Int := (List.range K).map (ouV L F x)
theorem ouL_succ (L : Ly) (F : Nat) (x : Nat → Int) (K : Nat) : ouL L F x (K + 1) = ouL L F x K ++ [ouV L F x K] := by unfold ouL; rw [List.range_succ, List.map_append]; rfl
/-- What become wants of the output k. -/
def BeOk (L : Ly) (F : Nat) (x : Nat → Int) (k : Nat) : Prop := (0 < L.mb ∧ k < L.mb ∧ (-4611686018427387904 ≤ smV (fun j => L.ws (k * F + j)) x F ∧ smV (fun j => L.ws (k * F + j)) x F ≤ 4611686018427387904) ∧ (-4611686018427387000 ≤ L.bs k ∧ L.bs k ≤ 4611686018427387000)) ∨ (L.mb = 0 ∧ k < L.mn)
set_option maxHeartbeats 3200000 in
set_option maxRecDepth 100000 in
theorem pweigh_any (L : Ly) (K F : Nat) (hK : L.k = K) (h1 : 1 ≤ K) (h2 : K ≤ 4096) (hw : L.mw = K * F) (hF1 : 1 ≤ F) (hm : K * F ≤ 16777216) (hcw : L.mw ≤ L.cw) (hws : ∀ j, j < L.mw → -1 ≤ L.ws j ∧ L.ws j ≤ 1) (xo : Option Addr) (xc : Nat) (x : Nat → Int) (hx : ∀ j, j < F → -128 ≤ x j ∧ x j ≤ 128) (hbe : ∀ k, k < K → BeOk L F x k)
    (v : Value) (p base : Nat) (vs : List Int) (hp : p ≤ 100000000) (w : World) (hown : w.ownsRow base 2 1 v p (i64L vs)) (hb : base ≤ w.heap.size) (HKp : ∀ X, w.grownBy X v.ownBlock → Lst X L ∧ R64 X xo F x) :
    Calls Try.prog 46 #[v, lyv L, .slice xo F xc] w fun e w' => ∃ v', e = .returned v' ∧ w'.ownsRow base 2 1 v' (p + K) (i64L (vs ++ ouL L F x K)) ∧ w.grownBy w' v.ownBlock ∧ (v'.ownBlock = v.ownBlock ∨ ∃ r, v'.ownBlock = some r ∧ w.heap.size ≤ r) := by
  have HK := hid1 hK
  have HW := hid1 hw
  have HWS := hid1 hws
  have HX := hid1 hx
  have HBE := hid1 hbe
  have HKP := hid1 HKp
  have HO := hid1 hown
  have hF : F ≤ 16777216 := Nat.le_trans (Nat.le_mul_of_pos_left F (by omega)) hm
  have hvl : ∀ q, v.ownBlock = some q → q < w.heap.size := fun q hq => (hown.lt q hq).2
  have HVL := hid1 hvl
  have hmwb : L.mw ≤ 16777216 := by rw [hw]; exact hm
  clear hK hw hws hx hbe HKp hown hvl
  obtain ⟨b, hb0⟩ : ∃ b, w.heap.size = b := ⟨_, rfl⟩
  go_enter Try.func46, Try.ntmps46
  go_upto_region 2 with fail
  refine gen_world (fun X => Below w.heap.size w X ∧ Lp X b L) ⟨by repeat (first | (with_reducible exact Below.refl _ _) | (with_reducible refine bl_alloc ?_ _) | (with_reducible refine Below.drew ?_) | (with_reducible refine bl_drewN ?_ _) | (with_reducible refine bl_set ?_ (by omega) _) | (with_reducible refine bl_step ?_ (by assumption))), lp_new' hb0 L _⟩ ?_
  rintro X ⟨BX, LX⟩
  have HLX := hid1 LX
  have c2 : X.cell? ⟨b, 2, none⟩ = some (.int .i64 (K : Int)) := by rw [← HK.out]; exact LX.2.2.1
  clear LX
  go_wp2_with fail
  clear c2
  go_loopw [0, 13] (fun vv i wr => ∃ (u : Value) (k : Nat), k ≤ K ∧ vv = u ∧ i = .int .i64 k ∧ Hid (wr.ownsRow base 2 1 u (p + k) (i64L (vs ++ ouL L F x k))) ∧ Hid (w.grownBy wr v.ownBlock) ∧ Hid (u.ownBlock = v.ownBlock ∨ ∃ r, u.ownBlock = some r ∧ b < r) ∧ Hid (Lp wr b L)) (fun _ i _ => K - (intOf i).toNat)
  case atStart => exact ⟨_, 0, Nat.zero_le _, rfl, rfl, hid1 (by rw [Nat.add_zero, show ouL L F x 0 = [] from rfl, List.append_nil]; exact own_bl HO.out BX), hid1 (gr_below (gr_refl w _) BX), hid1 (.inl rfl), HLX⟩
  case round =>
    clear BX HLX HO X
    obtain ⟨u, k, hk, ev, rfl, HO, HG, HU, HLX⟩ := hrel
    replace ev := ev.symm
    subst ev
    by_cases hlt : k < K
    · have ik : (k : Int) < (K : Nat) := by omega
      have ik0 : (0 : Int) ≤ (k : Int) := by omega
      have HLS := hid1 (HKP.out wr HG.out)
      have hkF : k * F + F ≤ K * F := by have := Nat.mul_le_mul_right F (show k + 1 ≤ K by omega); rw [Nat.succ_mul] at this; exact this
      obtain ⟨g, o, ea, -⟩ := HLS.out.1.1 0 (by rw [HW.out]; exact Nat.lt_of_lt_of_le (by omega) hkF)
      obtain ⟨A, hA⟩ : ∃ A, k * F = A := ⟨_, rfl⟩
      obtain ⟨B, hB⟩ : ∃ B, A + F = B := ⟨_, rfl⟩
      rw [hA, hB] at hkF
      have hBm : B ≤ L.mw := by rw [HW.out]; exact hkF
      have q1 : IntKind.i64.wrap ((k : Int) * (F : Int)) = (A : Int) := by rw [IntKind.wrap_i64, ← hA]; push_cast; have := hA; omega
      have q2 : IntKind.i64.wrap ((k : Int) + 1) = ((k : Int) + 1) := by rw [IntKind.wrap_i64]; omega
      have q3 : IntKind.i64.wrap (((k : Int) + 1) * (F : Int)) = (B : Int) := by
        rw [IntKind.wrap_i64]
        have : ((k : Int) + 1) * (F : Int) = (B : Int) := by rw [Int.add_mul, Int.one_mul, ← hB, ← hA]; push_cast; rfl
        omega
      have CS := hid1 (sum_any (some ⟨g, o + A, none⟩) xo F (L.cw - A) F xc (fun j => L.ws (k * F + j)) x wr.drew hF (Nat.le_refl _) (by omega) (fun j hj => by
        obtain ⟨g', o', e', c'⟩ := HLS.out.1.1 (A + j) (by omega)
        rw [ea] at e'
        simp only [Option.some.injEq, Addr.mk.injEq, and_true] at e'
        obtain ⟨rfl, rfl⟩ := e'
        exact ⟨g, o + A, rfl, by rw [hA, Nat.add_assoc]; exact c'⟩) (fun j hj => HLS.out.2 j hj) (fun j hj => HWS.out (k * F + j) (by omega)) HX.out)
      have HBK := HBE.out k hlt
      have CB := hid1 (become_any L k (smV (fun j => L.ws (k * F + j)) x F) wr.drew (HLS.out.1.keep (Below.drew (Below.refl _ _))) HBK)
      have HOV : Hid (ouV L F x k = beV L k (smV (fun j => L.ws (k * F + j)) x F)) := hid1 rfl
      generalize smV (fun j => L.ws (k * F + j)) x F = sv at CS CB HOV
      rw [← HOV.out] at CB
      clear HBK HOV
      obtain ⟨y, hy⟩ : ∃ y, ouV L F x k = y := ⟨_, rfl⟩
      rw [hy] at CB
      have HY := hid1 hy
      have HS := hid1 (ouL_succ L F x k)
      rw [HY.out] at HS
      have iB : (B : Int) ≤ (L.mw : Int) := by omega
      have iA : (A : Int) ≤ (B : Int) := by omega
      have iC : (B : Int) ≤ (L.cw : Int) := by omega
      have eBA : B - A = F := by omega
      have hne : ¬ L.cw = A := by omega
      obtain ⟨c0, c1, c2, c3, c4, c5, c6, c7, c8, c9, c10, c11, c12, c13, c14⟩ := HLX.out
      clear hA hB hy
      unfold lyv at CB
      rw [ea] at c12 CB
      clear ea
      go_upto_region 5 with fail
      go_region_law (first
        | (refine step_appP rfl (.tmp 16) (.tmp 32) rfl base u (vs ++ ouL L F x k) (p + k) (by go_simp) (own_bl HO.out (bl_alloc by1 _)) y1.heap.size y 1 (by go_simp) (by simp [go_sem]) (by omega) (by have := HG.out.size; have := by1.size; simp; omega) ?_; intro v3 y3 own3 gr3 at3; have O3 := hid1 own3; have G3 := hid1 gr3; have A3 := hid1 at3; clear own3 gr3 at3)
        | (go_simp; go_at_call 74; refine CS.out.mono ?_; rintro e y0 ⟨rfl, rfl⟩)
        | (go_simp; go_at_call 73; refine CB.out.mono ?_; rintro e y1 ⟨rfl, hb1⟩; have by1 : Below wr.heap.size wr y1 := bl_step (Below.drew (Below.refl _ _)) hb1; clear hb1))
      all_goals
        have hub : u.ownBlock ≠ some b := fun e => by
          rcases HU.out with h | ⟨r, h, hr⟩
          · have := HVL.out b (by rw [← h]; exact e); omega
          · rw [h] at e; cases e; omega
        have zy : b < y1.heap.size := Nat.lt_of_lt_of_le (lt_of_cell c0) by1.size
        have E1 : Hid (y3.ownsRow base 2 1 v3 (p + (k + 1)) (i64L (vs ++ ouL L F x (k + 1)))) := hid1 (by rw [HS.out, ← List.append_assoc]; exact O3.out)
        have E2 : Hid (w.grownBy y3 v.ownBlock) := hid1 (gr_step (gr_below HG.out (bl_alloc by1 _)) G3.out (by
          rcases HU.out with h | ⟨r, h, hr⟩
          · exact .inl h
          · exact .inr ⟨r, h, by omega⟩))
        have E3 : Hid (v3.ownBlock = v.ownBlock ∨ ∃ r, v3.ownBlock = some r ∧ b < r) := hid1 (by
          rcases A3.out with h | h
          · rw [h]; exact HU.out
          · exact .inr ⟨_, h, by simp; omega⟩)
        have E4 : Hid (Lp y3 b L) := hid1 ((HLX.out.keep (bl_alloc by1 _)).of_block (G3.out.block b (by simp; omega) (fun e => hub e.symm)))
        clear c0 c1 c2 c3 c4 c5 c6 c7 c8 c9 c10 c11 c12 c13 c14
        go_wp2
        exact ⟨⟨v3, k + 1, by omega, rfl, by go_num, E1, E2, E3, E4⟩, by simp [intOf]; omega⟩
    · have hkN : k = K := by omega
      subst hkN
      go_wp2_with fail
      go_ret
      exact ⟨_, rfl, HO.out, HG.out, by
        rcases HU.out with h | ⟨r, h, hr⟩
        · exact .inl h
        · exact .inr ⟨r, h, by omega⟩⟩
end Go.Proofs.Ytkhlhcbbbhbgeaa.Nn
/- PLAIN: the work of an LDense. -/
namespace Go.Proofs.Ytkhlhcbbbhbgeaa.Nn
open Go.RowKit

theorem gr_bel {a w x : World} {q : Option Nat} (h : w.grownBy x q) (hb : Below a.heap.size a w) (hq : ∀ k, q = some k → a.heap.size ≤ k) : Below a.heap.size a x :=
  ⟨h.os.trans hb.os, h.tape.trans hb.tape, h.output.trans hb.output, Nat.le_trans hb.size h.size, fun k hk => (h.block k (Nat.lt_of_lt_of_le hk hb.size) (fun e => by have := hq k e.symm; omega)).trans (hb.block k hk)⟩
theorem R64.keep' {W X : World} {ao : Option Addr} {m : Nat} {f : Nat → Int} (h : R64 W ao m f) (hb : Below W.heap.size W X) : R64 X ao m f := fun k hk => by
  obtain ⟨g, o, e, c⟩ := h k hk
  exact ⟨g, o, e, keepc hb c⟩
abbrev tnv (h v c : Int) (xo : Option Addr) (F xc : Nat) : Value := .agg #[.int .i64 h, .int .i64 v, .int .i64 c, .slice xo F xc]
/-- The four cells of a tensor. -/
def tnf (h v c : Int) (xo : Option Addr) (F xc : Nat) : Nat → Value := fun i => if i = 0 then .int .i64 h else if i = 1 then .int .i64 v else if i = 2 then .int .i64 c else .slice xo F xc
theorem tn_new (W : World) (h v c : Int) (xo : Option Addr) (F xc : Nat) (t : TypeId) : (W.alloc (.cells #[.int .i64 h, .int .i64 v, .int .i64 c, .slice xo F xc] t)).rowIs W.heap.size t 4 (tnf h v c xo F xc) :=
  World.rowIs_alloc W _ t _ fun i hi => by
    rcases i with _ | _ | _ | _ | i
    · rfl
    · rfl
    · rfl
    · rfl
    · simp at hi; omega
theorem kpC {V Y : World} {b : Nat} {L : Ly} {h v c oh ov oc : Int} {xo : Option Addr} {F xc : Nat} {t : TypeId} (h1 : Lp V b L) (h2 : V.rowIs (b + 1) t 4 (tnf h v c xo F xc)) (h3 : Sh V (b + 2) 0 oh ov oc) (hb : Below V.heap.size V Y) :
    (Y.cell? ⟨b, 0, none⟩ = some (.int .i64 L.kd) ∧ Y.cell? ⟨b, 1, none⟩ = some (.int .i64 L.wt) ∧ Y.cell? ⟨b, 2, none⟩ = some (.int .i64 L.k) ∧ Y.cell? ⟨b, 3, none⟩ = some (.int .i64 L.r) ∧ Y.cell? ⟨b, 4, none⟩ = some (.int .i64 L.s) ∧ Y.cell? ⟨b, 5, none⟩ = some (.int .i64 L.sy) ∧ Y.cell? ⟨b, 6, none⟩ = some (.int .i64 L.sx) ∧ Y.cell? ⟨b, 7, none⟩ = some (.int .i64 L.t) ∧ Y.cell? ⟨b, 8, none⟩ = some (.int .i64 L.l) ∧ Y.cell? ⟨b, 9, none⟩ = some (.int .i64 L.b) ∧ Y.cell? ⟨b, 10, none⟩ = some (.int .i64 L.q) ∧ Y.cell? ⟨b, 11, none⟩ = some (.int .i64 L.bd) ∧ Y.cell? ⟨b, 12, none⟩ = some (.slice L.aw L.mw L.cw) ∧ Y.cell? ⟨b, 13, none⟩ = some (.slice L.an L.mn L.cn) ∧ Y.cell? ⟨b, 14, none⟩ = some (.slice L.ab L.mb L.cb)) ∧ Y.cell? ⟨b + 1, 3, none⟩ = some (.slice xo F xc) ∧ Y.cell? ⟨b + 2, 0, none⟩ = some (.int .i64 oh) ∧ Y.cell? ⟨b + 2, 1, none⟩ = some (.int .i64 ov) ∧ Y.cell? ⟨b + 2, 2, none⟩ = some (.int .i64 oc) :=
  ⟨h1.keep hb, keepc hb (h2.cell (i := 3) (by decide)), keepc hb h3.1, keepc hb h3.2.1, keepc hb h3.2.2⟩
set_option maxHeartbeats 3200000 in
set_option maxRecDepth 100000 in
theorem connect_any (L : Ly) (K F : Nat) (hK : L.k = K) (h1 : 1 ≤ K) (h2 : K ≤ 4096) (hw : L.mw = K * F) (hF1 : 1 ≤ F) (hm : K * F ≤ 16777216) (hcw : L.mw ≤ L.cw) (hws : ∀ j, j < L.mw → -1 ≤ L.ws j ∧ L.ws j ≤ 1) (xo : Option Addr) (xc : Nat) (x : Nat → Int) (hx : ∀ j, j < F → -128 ≤ x j ∧ x j ≤ 128) (hbe : ∀ k, k < K → BeOk L F x k)
    (h v c oh ov oc : Int) (w : World) (hL : Lst w L) (hR : R64 w xo F x) :
    Calls Try.prog 32 #[lyv L, tnv h v c xo F xc, shp oh ov oc] w fun e w' => ∃ v', e = .returned v' ∧ w'.ownsRow w.heap.size 2 1 v' K (i64L (ouL L F x K)) ∧ Below w.heap.size w w' := by
  obtain ⟨n, hn⟩ := Int.eq_ofNat_of_zero_le (el_bd oh ov oc).1
  have CR := hid1 (fun W => room_any oh ov oc n hn W)
  have CW : Hid (∀ (y1 : World) (g base : Nat), Below w.heap.size w y1 → w.heap.size ≤ base → base ≤ y1.heap.size → y1.ownsRow base 2 1 (.slice (some ⟨g, 0, none⟩) 0 n) 0 [] → Calls Try.prog 46 #[.slice (some ⟨g, 0, none⟩) 0 n, lyv L, .slice xo F xc] y1 fun e w' => ∃ v', e = .returned v' ∧ w'.ownsRow base 2 1 v' K (i64L (ouL L F x K)) ∧ y1.grownBy w' (some g)) := hid1 (fun y1 g base hb hba hby how => by
    refine (pweigh_any L K F hK h1 h2 hw hF1 hm hcw hws xo xc x hx hbe (.slice (some ⟨g, 0, none⟩) 0 n) 0 base [] (by omega) y1 how hby (fun X hX => ?_)).mono ?_
    · have hbx := gr_bel hX hb (fun k e => by cases e; exact Nat.le_trans hba (how.lt g rfl).1)
      exact ⟨hL.keep hbx, hR.keep' hbx⟩
    · rintro e w' ⟨v', rfl, o', g', -⟩
      rw [Nat.zero_add, List.nil_append] at o'
      exact ⟨v', rfl, o', g'⟩)
  clear hn hK h1 h2 hw hF1 hm hcw hws hx hbe hL hR
  obtain ⟨b, hb0⟩ : ∃ b, w.heap.size = b := ⟨_, rfl⟩
  go_enter Try.func32, Try.ntmps32
  go_upto_region 1 with fail
  refine gen_world (fun X => Below w.heap.size w X ∧ Lp X b L ∧ X.rowIs (b + 1) 56 4 (tnf h v c xo F xc) ∧ Sh X (b + 2) 0 oh ov oc) ⟨by repeat (first | (with_reducible exact Below.refl _ _) | (with_reducible refine bl_alloc ?_ _) | (with_reducible refine Below.drew ?_) | (with_reducible refine bl_drewN ?_ _) | (with_reducible refine bl_set ?_ (by omega) _) | (with_reducible refine bl_step ?_ (by assumption))), (lp_new' hb0 L _).keep (bl_alloc (bl_alloc (Below.refl _ _) _) _), by have := (tn_new (w.alloc (lyo L)) h v c xo F xc 56).alloc (sho oh ov oc); rw [show (w.alloc (lyo L)).heap.size = b + 1 by simp [hb0]] at this; exact this, by have := sh_new ((w.alloc (lyo L)).alloc (.cells #[.int .i64 h, .int .i64 v, .int .i64 c, .slice xo F xc] 56)) oh ov oc 28; rw [show ((w.alloc (lyo L)).alloc (.cells #[.int .i64 h, .int .i64 v, .int .i64 c, .slice xo F xc] 56)).heap.size = b + 2 by simp [hb0]] at this; exact this⟩ ?_
  rintro X ⟨BX, LX, TX, SX⟩
  have HBX := hid1 BX
  have HLX := hid1 LX
  have HTX := hid1 TX
  have HSX := hid1 SX
  clear BX LX TX SX
  have hfo := followsP
  go_region_held3 (fun Y => (Y.cell? ⟨b, 0, none⟩ = some (.int .i64 L.kd) ∧ Y.cell? ⟨b, 1, none⟩ = some (.int .i64 L.wt) ∧ Y.cell? ⟨b, 2, none⟩ = some (.int .i64 L.k) ∧ Y.cell? ⟨b, 3, none⟩ = some (.int .i64 L.r) ∧ Y.cell? ⟨b, 4, none⟩ = some (.int .i64 L.s) ∧ Y.cell? ⟨b, 5, none⟩ = some (.int .i64 L.sy) ∧ Y.cell? ⟨b, 6, none⟩ = some (.int .i64 L.sx) ∧ Y.cell? ⟨b, 7, none⟩ = some (.int .i64 L.t) ∧ Y.cell? ⟨b, 8, none⟩ = some (.int .i64 L.l) ∧ Y.cell? ⟨b, 9, none⟩ = some (.int .i64 L.b) ∧ Y.cell? ⟨b, 10, none⟩ = some (.int .i64 L.q) ∧ Y.cell? ⟨b, 11, none⟩ = some (.int .i64 L.bd) ∧ Y.cell? ⟨b, 12, none⟩ = some (.slice L.aw L.mw L.cw) ∧ Y.cell? ⟨b, 13, none⟩ = some (.slice L.an L.mn L.cn) ∧ Y.cell? ⟨b, 14, none⟩ = some (.slice L.ab L.mb L.cb)) ∧ Y.cell? ⟨b + 1, 3, none⟩ = some (.slice xo F xc) ∧ Y.cell? ⟨b + 2, 0, none⟩ = some (.int .i64 oh) ∧ Y.cell? ⟨b + 2, 1, none⟩ = some (.int .i64 ov) ∧ Y.cell? ⟨b + 2, 2, none⟩ = some (.int .i64 oc))
    (((try dsimp only); (with_reducible refine kpC (V := X) HLX.out HTX.out HSX.out ?_); repeat (first | (with_reducible exact Below.refl _ _) | (with_reducible assumption) | (with_reducible refine Below.drew ?_))))
    (first
    | (go_at_call 43; refine (CR.out _).mono ?_; rintro e y1 ⟨g, rfl, ow1, hb1⟩; have by1 : Below X.heap.size X y1 := bl_step (Below.drew (Below.refl _ _)) hb1; have HO1 := hid1 ow1; clear ow1 hb1)
    | (go_at_call 46; refine (CW.out y1 g X.drew.heap.size (bl_step HBX.out by1) HBX.out.size by1.size HO1.out).mono ?_; rintro e y2 ⟨v', rfl, ow2, gr2⟩; have by2 : Below X.heap.size X y2 := gr_bel gr2 by1 (fun k e => by cases e; exact (HO1.out.lt g rfl).1); have HO2 := hid1 ow2; clear ow2 gr2))
  go_wp2_with fail
  go_ret
  exact ⟨v', rfl, HO2.out.mono HBX.out.size, bl_step HBX.out by2⟩
end Go.Proofs.Ytkhlhcbbbhbgeaa.Nn
/- PLAIN: the table of works; the closure of Run. -/
namespace Go.Proofs.Ytkhlhcbbbhbgeaa.Nn
open Go.RowKit Go.ChangeMaps

theorem und_mapP : Try.prog.underlying 72 = some (.map 3 76) := by kernel_rfl
theorem insP_run {w : World} {b : Nat} {es : Array MapEntry} {c : Nat} (hb : w.heap[b]? = some (.map es c)) (k : Int) (v : Value) (hn : Instr.findNow (.int .i64) (.int .i64 k) es.toList 0 = some none) :
    Sem.run Try.prog (Instr.mapUpdate 72 (.map (some b)) (.int .i64 k) v) w = .ok () (setBlock w b (.map (es.push ⟨.int .i64 k, v, c⟩) (c + 1))) := by
  simp [Instr.mapUpdate, run_underlying und_mapP, MapKept.run_getObj_map hb, MapKept.run_checkKey Try.underlying3 (show MapKept.IsKey (.int .i64) (.int .i64 k) from rfl) false 9999, MapKept.run_findKey Try.underlying3 hn, MapKept.run_setObj_map _ hb, Result.andThen, setBlock]
theorem insP_ex {w : World} {b : Nat} {es : Array MapEntry} {c : Nat} (hb : w.heap[b]? = some (.map es c)) (k : Int) (v : Value) (hn : Instr.findNow (.int .i64) (.int .i64 k) es.toList 0 = some none) :
    ∃ W, Sem.run Try.prog (Instr.mapUpdate 72 (.map (some b)) (.int .i64 k) v) w = .ok () W ∧ W.heap.size = w.heap.size ∧ W.heap[b]? = some (.map (es.push ⟨.int .i64 k, v, c⟩) (c + 1)) ∧ (∀ i, i ≠ b → W.heap[i]? = w.heap[i]?) ∧ W.os = w.os ∧ W.tape = w.tape ∧ W.output = w.output :=
  ⟨_, insP_run hb k v hn, by simp [setBlock], heap_setBlock_same hb _, fun i hi => heap_setBlock_other hb _ hi, rfl, rfl, rfl⟩
abbrev plE1 : MapEntry := ⟨.int .i64 1, fv 31, 0⟩
abbrev plE2 : MapEntry := ⟨.int .i64 2, fv 32, 1⟩
abbrev plE3 : MapEntry := ⟨.int .i64 3, fv 33, 2⟩
def Plw (W : World) (b : Nat) : Prop := W.heap[b]? = some (.map #[plE1, plE2, plE3] 3)
theorem Plw.lt {W : World} {b : Nat} (h : Plw W b) : b < W.heap.size := (Array.getElem?_eq_some_iff.1 h).1
theorem Plw.keep {W w' : World} {b : Nat} (h : Plw W b) (hb : Below W.heap.size W w') : Plw w' b := (hb.block _ h.lt).trans h
set_option maxRecDepth 100000 in
theorem pworks_any (w : World) : Calls Try.prog 25 #[] w fun e w' => e = .returned (.map (some w.heap.size)) ∧ Plw w' w.heap.size ∧ Below w.heap.size w w' := by
  have hmm := @run_makeMap Try.prog
  obtain ⟨W1, r1, z1, b1, o1, t1⟩ := insP_ex (w := w.alloc (.map #[] 0)) (b := w.heap.size) (es := #[]) (c := 0) (new_block w _) 1 (fv 31) rfl
  obtain ⟨W2, r2, z2, b2, o2, t2⟩ := insP_ex (w := W1) (b := w.heap.size) b1 2 (fv 32) (by first | rfl | kernel_rfl)
  obtain ⟨W3, r3, z3, b3, o3, t3⟩ := insP_ex (w := W2) (b := w.heap.size) b2 3 (fv 33) (by first | rfl | kernel_rfl)
  have hs0 : (w.alloc (.map #[] 0)).heap.size = w.heap.size + 1 := by simp
  rw [hs0] at z1
  have q3 : ∀ i, i < w.heap.size → W3.heap[i]? = w.heap[i]? := fun i hi => by rw [o3 i (by omega), o2 i (by omega), o1 i (by omega), old_block _ _ hi]
  have fin : Hid (Plw W3 w.heap.size ∧ Below w.heap.size w W3) := ⟨b3, ⟨t3.1.trans (t2.1.trans t1.1), t3.2.1.trans (t2.2.1.trans t1.2.1), t3.2.2.trans (t2.2.2.trans t1.2.2), by omega, q3⟩⟩
  clear b1 b2 b3 o1 o2 o3 q3 hs0 t1 t2 t3
  go_enter Try.func25, Try.ntmps25
  go_wp2_with fail
  go_ret
  exact ⟨rfl, fin.out⟩
def plF (kd : Int) : Nat := if kd = 1 then 31 else if kd = 2 then 32 else 33
theorem lookP_run {w : World} {b : Nat} (h : w.heap[b]? = some (.map #[plE1, plE2, plE3] 3)) (kd : Int) (hk : kd = 1 ∨ kd = 2 ∨ kd = 3) : Sem.run Try.prog (Instr.lookup 72 (.map (some b)) (.int .i64 kd) false) w = .ok (fv (plF kd)) w := by
  unfold plF
  rcases hk with rfl | rfl | rfl
  · simp [Instr.lookup, run_underlying und_mapP, MapKept.run_getObj_map h, MapKept.run_checkKey Try.underlying3 (show MapKept.IsKey (.int .i64) (.int .i64 1) from rfl) _ 9999, Instr.findKey, Instr.findNow, Instr.sameNow, run_underlying Try.underlying3, Result.andThen]
  · simp [Instr.lookup, run_underlying und_mapP, MapKept.run_getObj_map h, MapKept.run_checkKey Try.underlying3 (show MapKept.IsKey (.int .i64) (.int .i64 2) from rfl) _ 9999, Instr.findKey, Instr.findNow, Instr.sameNow, run_underlying Try.underlying3, Result.andThen]
  · simp [Instr.lookup, run_underlying und_mapP, MapKept.run_getObj_map h, MapKept.run_checkKey Try.underlying3 (show MapKept.IsKey (.int .i64) (.int .i64 3) from rfl) _ 9999, Instr.findKey, Instr.findNow, Instr.sameNow, run_underlying Try.underlying3, Result.andThen]
set_option maxRecDepth 100000 in
theorem plF_call (kd : Int) (args : Array Value) (w : World) : (callFunc (plF kd) args).run Try.prog w = .ok (.enter (plF kd) args) w := by
  unfold plF
  by_cases h : kd = 1
  · rw [if_pos h]; rfl
  · rw [if_neg h]
    by_cases h2 : kd = 2
    · rw [if_pos h2]; rfl
    · rw [if_neg h2]; rfl
set_option maxHeartbeats 800000 in
set_option maxRecDepth 100000 in
/-- Run's closure: what comes is kept. -/
theorem run1_any (h v c : Int) (xo : Option Addr) (F xc cb : Nat) (u : Value) (w : World) (hc : w.rowIs cb 34 1 (fun _ => u)) :
    Calls Try.prog 18 #[tnv h v c xo F xc, .pointer (some ⟨cb, 0, none⟩)] w fun e w' => e = .returned (.tuple #[]) ∧ w'.rowIs cb 34 1 (fun _ => .slice xo F xc) ∧ w.grownBy w' (some cb) := by
  have HC := hid1 hc
  have hl := hc.lt
  have c0 := hc.cell (i := 0) (by decide)
  have f0 := hc.frozen 0
  clear hc
  go_enter Try.func18, Try.ntmps18
  go_wp2_with fail
  refine bodyPost_end (v := .tuple #[]) (by simp [results, go_sem]) rfl ⟨rfl, World.rowIs.alloc (((HC.out.set 0 (.slice xo F xc)).congr fun i hi => ?_)) _, ⟨rfl, rfl, rfl, by simp, fun k hk hne => ?_⟩⟩
  · obtain rfl : i = 0 := by omega
    rfl
  · rw [old_block _ _ (by simpa using hk)]
    exact Below.heap_setCell _ _ _ _ (fun e => hne (by rw [e]))
end Go.Proofs.Ytkhlhcbbbhbgeaa.Nn
/- PLAIN: a network passed through, for Run. -/
namespace Go.Proofs.Ytkhlhcbbbhbgeaa.Nn
open Go.RowKit

theorem shf_atP (N : Nt) (m k : Nat) (hk : k < m) : shf N m (k * 3) = .int .i64 (sp N (k + 1)).h ∧ shf N m (k * 3 + 1) = .int .i64 (sp N (k + 1)).v ∧ shf N m (k * 3 + 2) = .int .i64 (sp N (k + 1)).c := by
  unfold shf
  rw [if_pos (by omega), if_pos (by omega), if_pos (by omega), show k * 3 / 3 = k by omega, show (k * 3 + 1) / 3 = k by omega, show (k * 3 + 2) / 3 = k by omega, show k * 3 % 3 = 0 by omega, show (k * 3 + 1) % 3 = 1 by omega, show (k * 3 + 2) % 3 = 2 by omega]
  exact ⟨rfl, rfl, rfl⟩
theorem cell_four {Y : World} {b c i j k l n : Nat} {u v x z q : Value} (h : Y.cell? ⟨b, n, none⟩ = some q) (hn : b ≠ c) : ((((Y.setCell ⟨c, i, none⟩ u).setCell ⟨c, j, none⟩ v).setCell ⟨c, k, none⟩ x).setCell ⟨c, l, none⟩ z).cell? ⟨b, n, none⟩ = some q :=
  (World.cell?_of_block (w := Y) (by rw [Below.heap_setCell _ _ _ _ (by show b ≠ c; exact hn), Below.heap_setCell _ _ _ _ (by show b ≠ c; exact hn), Below.heap_setCell _ _ _ _ (by show b ≠ c; exact hn), Below.heap_setCell _ _ _ _ (by show b ≠ c; exact hn)])).trans h
theorem heap_four {Y : World} {b c i j k l : Nat} {u v x z : Value} (hn : b ≠ c) : ((((Y.setCell ⟨c, i, none⟩ u).setCell ⟨c, j, none⟩ v).setCell ⟨c, k, none⟩ x).setCell ⟨c, l, none⟩ z).heap[b]? = Y.heap[b]? := by rw [Below.heap_setCell _ _ _ _ (by show b ≠ c; exact hn), Below.heap_setCell _ _ _ _ (by show b ≠ c; exact hn), Below.heap_setCell _ _ _ _ (by show b ≠ c; exact hn), Below.heap_setCell _ _ _ _ (by show b ≠ c; exact hn)]
theorem gr_four {w Y : World} {c i j k l : Nat} {u v x z : Value} {q : Option Nat} (h : w.grownBy Y q) (hc : w.heap.size ≤ c) : w.grownBy ((((Y.setCell ⟨c, i, none⟩ u).setCell ⟨c, j, none⟩ v).setCell ⟨c, k, none⟩ x).setCell ⟨c, l, none⟩ z) q :=
  ⟨h.os, h.tape, h.output, by simpa using h.size, fun n hn hne => (heap_four (by omega)).trans (h.block n hn hne)⟩
theorem kmeet_p {J K : Act → World → Prop} {Q : Exit → Act → World → Prop} {a : Act} {w : World} (hK : ∀ a' w', Met J a' w' → K a' w') (h : Met J a w) : Exit.then K Q Exit.normal a w := hK _ _ h
theorem tn_cells {V : World} {T : Nat} {t : TypeId} {h v c : Int} {xo : Option Addr} {F xc : Nat} (r : V.rowIs T t 4 (tnf h v c xo F xc)) : V.cell? ⟨T, 0, none⟩ = some (.int .i64 h) ∧ V.cell? ⟨T, 1, none⟩ = some (.int .i64 v) ∧ V.cell? ⟨T, 2, none⟩ = some (.int .i64 c) ∧ V.cell? ⟨T, 3, none⟩ = some (.slice xo F xc) :=
  ⟨r.cell (i := 0) (by decide), r.cell (i := 1) (by decide), r.cell (i := 2) (by decide), r.cell (i := 3) (by decide)⟩
theorem tn_set {V : World} {T : Nat} {t : TypeId} {h v c : Int} {xo : Option Addr} {F xc : Nat} (r : V.rowIs T t 4 (tnf h v c xo F xc)) (h' v' c' : Int) (xo' : Option Addr) (F' xc' : Nat) : ((((V.setCell ⟨T, 0, none⟩ (.int .i64 h')).setCell ⟨T, 1, none⟩ (.int .i64 v')).setCell ⟨T, 2, none⟩ (.int .i64 c')).setCell ⟨T, 3, none⟩ (.slice xo' F' xc')).rowIs T t 4 (tnf h' v' c' xo' F' xc') := by
  refine ((((r.set 0 (.int .i64 h')).set 1 (.int .i64 v')).set 2 (.int .i64 c')).set 3 (.slice xo' F' xc')).congr fun i hi => ?_
  rcases i with _ | _ | _ | _ | i
  · rfl
  · rfl
  · rfl
  · rfl
  · omega
theorem kpP {V Y : World} {bl T gs k M : Nat} {L : Ly} {ih iv ic oh ov oc : Int} {xo : Option Addr} {F xc : Nat} {t : TypeId} (h1 : Lp V bl L) (h2 : V.rowIs T t 4 (tnf ih iv ic xo F xc)) (h3 : V.cell? ⟨gs, k * 3, none⟩ = some (.int .i64 oh) ∧ V.cell? ⟨gs, k * 3 + 1, none⟩ = some (.int .i64 ov) ∧ V.cell? ⟨gs, k * 3 + 2, none⟩ = some (.int .i64 oc)) (h4 : Plw V M) (hb : Below V.heap.size V Y) :
    (Y.cell? ⟨bl, 0, none⟩ = some (.int .i64 L.kd) ∧ Y.cell? ⟨bl, 1, none⟩ = some (.int .i64 L.wt) ∧ Y.cell? ⟨bl, 2, none⟩ = some (.int .i64 L.k) ∧ Y.cell? ⟨bl, 3, none⟩ = some (.int .i64 L.r) ∧ Y.cell? ⟨bl, 4, none⟩ = some (.int .i64 L.s) ∧ Y.cell? ⟨bl, 5, none⟩ = some (.int .i64 L.sy) ∧ Y.cell? ⟨bl, 6, none⟩ = some (.int .i64 L.sx) ∧ Y.cell? ⟨bl, 7, none⟩ = some (.int .i64 L.t) ∧ Y.cell? ⟨bl, 8, none⟩ = some (.int .i64 L.l) ∧ Y.cell? ⟨bl, 9, none⟩ = some (.int .i64 L.b) ∧ Y.cell? ⟨bl, 10, none⟩ = some (.int .i64 L.q) ∧ Y.cell? ⟨bl, 11, none⟩ = some (.int .i64 L.bd) ∧ Y.cell? ⟨bl, 12, none⟩ = some (.slice L.aw L.mw L.cw) ∧ Y.cell? ⟨bl, 13, none⟩ = some (.slice L.an L.mn L.cn) ∧ Y.cell? ⟨bl, 14, none⟩ = some (.slice L.ab L.mb L.cb)) ∧ (Y.cell? ⟨T, 0, none⟩ = some (.int .i64 ih) ∧ Y.cell? ⟨T, 1, none⟩ = some (.int .i64 iv) ∧ Y.cell? ⟨T, 2, none⟩ = some (.int .i64 ic) ∧ Y.cell? ⟨T, 3, none⟩ = some (.slice xo F xc)) ∧ (Y.cell? ⟨gs, k * 3, none⟩ = some (.int .i64 oh) ∧ Y.cell? ⟨gs, k * 3 + 1, none⟩ = some (.int .i64 ov) ∧ Y.cell? ⟨gs, k * 3 + 2, none⟩ = some (.int .i64 oc)) ∧ Y.heap[M]? = some (.map #[plE1, plE2, plE3] 3) :=
  ⟨h1.keep hb, ⟨keepc hb (tn_cells h2).1, keepc hb (tn_cells h2).2.1, keepc hb (tn_cells h2).2.2.1, keepc hb (tn_cells h2).2.2.2⟩, ⟨keepc hb h3.1, keepc hb h3.2.1, keepc hb h3.2.2⟩, h4.keep hb⟩
theorem kpN {V Y : World} {b : Nat} {N : Nt} (h : Nb V b N) (hb : Below V.heap.size V Y) : Y.cell? ⟨b, 1, none⟩ = some (.int .i64 N.h) ∧ Y.cell? ⟨b, 2, none⟩ = some (.int .i64 N.v) ∧ Y.cell? ⟨b, 3, none⟩ = some (.int .i64 N.c) := ⟨keepc hb h.2.1, keepc hb h.2.2.1, keepc hb h.2.2.2.1⟩
/-- The values that come in to the layer i, of which there are sz i; what is asked of each layer's work. -/
def Wrk (N : Nt) (sz : Nat → Nat) (val : Nat → Nat → Int) (i : Nat) : Prop := ((N.lf i).kd = 1 ∨ (N.lf i).kd = 2 ∨ (N.lf i).kd = 3) ∧ 1 ≤ sz (i + 1) ∧ ∀ (W : World) (xo : Option Addr) (xc : Nat), sz i ≤ xc → Lst W (N.lf i) → R64 W xo (sz i) (val i) → Calls Try.prog (plF (N.lf i).kd) #[lyv (N.lf i), tnv (sp N i).h (sp N i).v (sp N i).c xo (sz i) xc, shp (sp N (i + 1)).h (sp N (i + 1)).v (sp N (i + 1)).c] W fun e w' => ∃ v', e = .returned v' ∧ w'.ownsRow W.heap.size 2 1 v' (sz (i + 1)) (i64L ((List.range (sz (i + 1))).map (val (i + 1)))) ∧ Below W.heap.size W w'
/-- An own row of numbers reads as they do. -/
theorem own_64 {w : World} {base n : Nat} {v : Value} {f : Nat → Int} (h : w.ownsRow base 2 1 v n (i64L ((List.range n).map f))) (hn : 1 ≤ n) : ∃ g cap, v = .slice (some ⟨g, 0, none⟩) n cap ∧ base ≤ g ∧ g < w.heap.size ∧ n ≤ cap ∧ R64 w (some ⟨g, 0, none⟩) n f := by
  rcases h.2 with ⟨_, h0⟩ | ⟨g, cap, cur, hv, hb, hg, h4, h5, h6, h7⟩
  · omega
  · refine ⟨g, cap, hv, hb, (Array.getElem?_eq_some_iff.1 hg).1, h4, fun k hk => ⟨g, 0, rfl, ?_⟩⟩
    have e : (i64L ((List.range n).map f))[k]? = some (.int .i64 (f k)) := by simp [i64L, hk]
    rw [← h7, Nat.mul_one, List.getElem?_take_of_lt hk] at e
    rw [Nat.zero_add]
    simp only [World.cell?, hg]
    rw [Array.getElem?_toList] at e
    simpa using e
set_option maxHeartbeats 6400000 in
set_option maxRecDepth 100000 in
theorem pass_any (N : Nt) (sz : Nat → Nat) (val : Nat → Nat → Int) (hml : 1 ≤ N.ml ∧ N.ml ≤ 64) (hwk : ∀ i, i < N.ml → Wrk N sz val i) (ao : Option Addr) (cap : Nat) (f : Nat → Int) (hs0 : sz 0 ≤ 16777216) (hf : ∀ j, j < sz 0 → s8 (f j) = val 0 j) (gs cb : Nat) (u0 : Value) (w : World) (hN : NtW w N) (hx : RB w ao (sz 0) f) (hsh : w.rowIs gs 28 (N.ml * 3) (shf N N.ml)) (hcb : w.rowIs cb 34 1 (fun _ => u0)) (hk : ∀ X, w.grownBy X (some cb) → NtW X N ∧ X.rowIs gs 28 (N.ml * 3) (shf N N.ml)) :
    Calls Try.prog 14 #[ntv N, .slice ao (sz 0) cap, .slice (some ⟨gs, 0, none⟩) N.ml N.ml, .func (.func 18) #[] #[.pointer (some ⟨cb, 0, none⟩)]] w fun e w' => e = .returned (.tuple #[]) ∧ w.grownBy w' (some cb) ∧ ∃ g cap', w'.rowIs cb 34 1 (fun _ => .slice (some ⟨g, 0, none⟩) (sz N.ml) cap') ∧ w.heap.size ≤ g ∧ R64 w' (some ⟨g, 0, none⟩) (sz N.ml) (val N.ml) := by
  have HW := hid1 hN
  have HWK := hid1 hwk
  have HF := hid1 hf
  have HXX := hid1 hx
  have HSH := hid1 hsh
  have HCB := hid1 hcb
  have HKK := hid1 hk
  have lcb := hcb.lt
  have lgs := hsh.lt
  clear hN hwk hf hx hsh hcb hk
  obtain ⟨b, hb0⟩ : ∃ b, w.heap.size = b := ⟨_, rfl⟩
  go_enter Try.func14, Try.ntmps14
  go_wp2_with fail
  refine gen_calls (fun X => Below w.heap.size w X ∧ Nb X b N) ⟨by repeat (first | (with_reducible exact Below.refl _ _) | (with_reducible refine bl_alloc ?_ _) | (with_reducible refine Below.drew ?_) | (with_reducible refine bl_drewN ?_ _) | (with_reducible refine bl_set ?_ (by omega) _) | (with_reducible refine bl_step ?_ (by assumption))), by rw [← hb0]; exact nb_new _ _ _⟩ ?_
  rintro X ⟨BX, NX⟩
  refine (pworks_any X).mono ?_
  rintro e w1 ⟨rfl, PW, hb⟩
  have hMb0 : b < X.heap.size := lt_of_cell NX.1
  replace BX := bl_step BX hb
  replace NX := NX.keep hb
  obtain ⟨M, hM⟩ : ∃ M, X.heap.size = M := ⟨_, rfl⟩
  rw [hM] at PW hMb0 ⊢
  clear hb
  have CS := hid1 (fun W (h : Below w.heap.size w W) => signed_any ao (sz 0) cap f W hs0 (HXX.out.keep h))
  have n1 := NX.2.1
  have n2 := NX.2.2.1
  have n3 := NX.2.2.2.1
  have HNX := hid1 NX
  have HPW := hid1 PW
  have HBX := hid1 BX
  have lM := PW.lt
  clear NX PW BX
  have hfo := followsP
  go_upto_region 2 with fail
  go_cut [9] from 14 to 18 (fun s9 wx => ∃ T g, s9 = .pointer (some ⟨T, 0, none⟩) ∧ w1.heap.size ≤ T ∧ w1.heap.size ≤ g ∧ wx.rowIs T 56 4 (tnf N.h N.v N.c (some ⟨g, 0, none⟩) (sz 0) (sz 0)) ∧ wx.rowIs g 2 (sz 0) (fun k => .int .i64 (s8 (f k))) ∧ Below w1.heap.size w1 wx)
  case first =>
    go_region_held3 (fun Y => Y.cell? ⟨b, 1, none⟩ = some (.int .i64 N.h) ∧ Y.cell? ⟨b, 2, none⟩ = some (.int .i64 N.v) ∧ Y.cell? ⟨b, 3, none⟩ = some (.int .i64 N.c))
      (((try dsimp only); (with_reducible refine kpN (V := w1) HNX.out ?_); repeat (first | (with_reducible exact Below.refl _ _) | (with_reducible assumption) | (with_reducible refine Below.drew ?_) | (with_reducible refine bl_alloc ?_ _) | (with_reducible refine bl_set ?_ (by first | exact Nat.le_refl _ | exact by1.size) _))))
      ((go_at_call 26; refine (CS.out _ (bl_step HBX.out (by repeat (first | (with_reducible exact Below.refl _ _) | (with_reducible refine Below.drew ?_) | (with_reducible refine bl_alloc ?_ _))))).mono ?_; rintro e y1 ⟨rfl, rg, hb1⟩; have by1 : Below w1.heap.size w1 y1 := (bl_step (by repeat (first | (with_reducible exact Below.refl _ _) | (with_reducible refine Below.drew ?_) | (with_reducible refine bl_alloc ?_ _))) hb1); have HRG := hid1 rg; have HB1 := hid1 hb1; (try (have VR := World.rowIs.of_block (tn_new w1 0 0 0 none 0 0 56).drew (HB1.out.block _ (World.rowIs.lt (tn_new w1 0 0 0 none 0 0 56).drew)); obtain ⟨v0, v1, v2, v3⟩ := tn_cells VR; have f0 := VR.frozen 0; have f1 := VR.frozen 1; have f2 := VR.frozen 2; have f3 := VR.frozen 3; have HVR := hid1 VR; clear VR)); clear hb1 rg))
    all_goals (refine kmeet_p (by assumption) ?_; go_meet)
    · exact ⟨_, _, rfl, by1.size, Nat.le_refl _, tn_new _ _ _ _ _ _ _ _, HRG.out.alloc _, bl_alloc by1 _⟩
    · refine ⟨_, _, rfl, Nat.le_refl _, Nat.le_succ _, tn_set HVR.out _ _ _ _ _ _, ?_, bl_set (bl_set (bl_set (bl_set by1 (Nat.le_refl _) _) (Nat.le_refl _) _) (Nat.le_refl _) _) (Nat.le_refl _) _⟩
      obtain ⟨q, hq, hr⟩ : ∃ q, q = w1.heap.size + 1 ∧ y1.rowIs q 2 (sz 0) (fun k => .int .i64 (s8 (f k))) := ⟨_, by simp, HRG.out⟩
      subst hq
      exact (((hr.setOther (by show w1.heap.size + 1 ≠ w1.heap.size; omega) _).setOther (by show w1.heap.size + 1 ≠ w1.heap.size; omega) _).setOther (by show w1.heap.size + 1 ≠ w1.heap.size; omega) _).setOther (by show w1.heap.size + 1 ≠ w1.heap.size; omega) _
  case rest =>
    obtain ⟨T, g0, rfl, gT, gg0, RT, RG, Bc⟩ := hcut
    have lT := RT.lt
    have n4 := (HNX.out.keep Bc).2.2.2.2
    have K0 := hid1 (gr_below (gr_refl w (some cb)) (bl_step HBX.out Bc))
    have K1 := hid1 (HPW.out.keep Bc)
    have K2 := hid1 RT
    have K3 : Hid (R64 wc (some ⟨g0, 0, none⟩) (sz 0) (val 0)) := hid1 (fun j hj => ⟨g0, 0, rfl, by rw [Nat.zero_add, RG.cell hj, HF.out j hj]⟩)
    have K4 := hid1 (World.rowIs.of_block HCB.out ((bl_step HBX.out Bc).block _ lcb))
    clear RT RG Bc HNX HPW HBX n1 n2 n3
    go_wp2_with fail
    clear n4
    go_loopw [22] (fun i wr => ∃ (k g cp : Nat) (u : Value), k ≤ N.ml ∧ i = .int .i64 k ∧ sz k ≤ cp ∧ T < wr.heap.size ∧ Hid (w.grownBy wr (some cb)) ∧ Hid (Plw wr M) ∧ Hid (wr.rowIs T 56 4 (tnf (sp N k).h (sp N k).v (sp N k).c (some ⟨g, 0, none⟩) (sz k) cp)) ∧ Hid (R64 wr (some ⟨g, 0, none⟩) (sz k) (val k)) ∧ Hid (wr.rowIs cb 34 1 (fun _ => u)) ∧ Hid (0 < k → u = .slice (some ⟨g, 0, none⟩) (sz k) cp ∧ w.heap.size ≤ g)) (fun i _ => N.ml - (intOf i).toNat)
    case atStart => exact ⟨0, g0, sz 0, u0, Nat.zero_le _, rfl, Nat.le_refl _, lT, K0, K1, K2, K3, K4, hid1 (fun h => absurd h (by omega))⟩
    case round =>
      clear K0 K1 K2 K3 K4 lT
      obtain ⟨k, g, cp, u, hk, rfl, hcp, lT, K0, K1, K2, K3, K4, K5⟩ := hrel
      have ik0 : (0 : Int) ≤ (k : Int) := by omega
      by_cases hlt : k < N.ml
      · have ik : (k : Int) < (N.ml : Int) := by omega
        obtain ⟨hNW, hSH⟩ := HKK.out wr K0.out
        obtain ⟨gl, o, ea, LC, LL⟩ := hNW.1 k hlt
        have CK := HWK.out k hlt
        have hkd := CK.1
        have hs1 := CK.2.1
        have HCK := hid1 CK.2.2
        have CF := plF_call (N.lf k).kd
        have LK := fun (W : World) (h : W.heap[M]? = some (Obj.map #[plE1, plE2, plE3] 3)) => lookP_run h (N.lf k).kd hkd
        have hsf := shf_atP N N.ml k hlt
        have s0 := World.rowIs.cell hSH (i := k * 3) (by omega)
        have s1 := World.rowIs.cell hSH (i := k * 3 + 1) (by omega)
        have s2 := World.rowIs.cell hSH (i := k * 3 + 2) (by omega)
        rw [hsf.1] at s0
        rw [hsf.2.1] at s1
        rw [hsf.2.2] at s2
        clear CK hsf hkd
        generalize plF (N.lf k).kd = fw at CF HCK LK
        generalize hLk : N.lf k = L at LC LL HCK LK CF
        have HLS := hid1 LL
        clear LL hLk
        generalize (sp N k).h = ih at K2 HCK
        generalize (sp N k).v = iv at K2 HCK
        generalize (sp N k).c = ic at K2 HCK
        obtain ⟨oh, hoh⟩ : ∃ z, (sp N (k + 1)).h = z := ⟨_, rfl⟩
        obtain ⟨ov, hov⟩ : ∃ z, (sp N (k + 1)).v = z := ⟨_, rfl⟩
        obtain ⟨oc, hoc⟩ : ∃ z, (sp N (k + 1)).c = z := ⟨_, rfl⟩
        rw [hoh] at s0
        rw [hov] at s1
        rw [hoc] at s2
        rw [hoh, hov, hoc] at HCK
        have HOH := hid1 (And.intro hoh (And.intro hov hoc))
        clear hoh hov hoc
        have HSS := hid1 (And.intro s0 (And.intro s1 s2))
        obtain ⟨c0, c1, c2, c3, c4, c5, c6, c7, c8, c9, c10, c11, c12, c13, c14⟩ := LC
        obtain ⟨bl, hbl⟩ : ∃ x, wr.heap.size = x := ⟨_, rfl⟩
        go_upto_region 6 with fail
        clear c0 c1 c2 c3 c4 c5 c6 c7 c8 c9 c10 c11 c12 c13 c14 s0 s1 s2 ea
        refine gen_world (fun X => Below wr.heap.size wr X ∧ Lp X bl L ∧ X.heap.size = bl + 1) ⟨by repeat (first | (with_reducible exact Below.refl _ _) | (with_reducible refine bl_alloc ?_ _) | (with_reducible refine Below.drew ?_) | (with_reducible refine bl_drewN ?_ _) | (with_reducible refine bl_set ?_ (by omega) _) | (with_reducible refine bl_step ?_ (by assumption))), lp_new' hbl L _, by simp [hbl]⟩ ?_
        rintro V ⟨BV, LV, zV⟩
        have HLV := hid1 LV
        have K1' := hid1 (K1.out.keep BV)
        have K2' := hid1 (World.rowIs.of_block K2.out (BV.block _ (World.rowIs.lt K2.out)))
        have HSV := hid1 (And.intro (keepc BV HSS.out.1) (And.intro (keepc BV HSS.out.2.1) (keepc BV HSS.out.2.2)))
        have HLL := hid1 (HLS.out.keep BV)
        have K3' := hid1 (K3.out.keep' BV)
        have HGV := hid1 (gr_below K0.out BV)
        have K4' := hid1 (World.rowIs.of_block K4.out (BV.block _ (World.rowIs.lt K4.out)))
        have lTV : T < V.heap.size := by omega
        have hblV : bl < V.heap.size := by omega
        clear BV LV HSS HLS zV hbl
        have hcV := K4'.out.lt
        go_cut [12] (fun s12 wx => ∃ O g' cp', s12 = .pointer (some ⟨O, 0, none⟩) ∧ V.heap.size ≤ O ∧ V.heap.size ≤ g' ∧ sz (k + 1) ≤ cp' ∧ wx.rowIs O 56 4 (tnf oh ov oc (some ⟨g', 0, none⟩) (sz (k + 1)) cp') ∧ R64 wx (some ⟨g', 0, none⟩) (sz (k + 1)) (val (k + 1)) ∧ Below V.heap.size V wx)
        case first =>
          go_region_held3 (fun Y => (Y.cell? ⟨bl, 0, none⟩ = some (.int .i64 L.kd) ∧ Y.cell? ⟨bl, 1, none⟩ = some (.int .i64 L.wt) ∧ Y.cell? ⟨bl, 2, none⟩ = some (.int .i64 L.k) ∧ Y.cell? ⟨bl, 3, none⟩ = some (.int .i64 L.r) ∧ Y.cell? ⟨bl, 4, none⟩ = some (.int .i64 L.s) ∧ Y.cell? ⟨bl, 5, none⟩ = some (.int .i64 L.sy) ∧ Y.cell? ⟨bl, 6, none⟩ = some (.int .i64 L.sx) ∧ Y.cell? ⟨bl, 7, none⟩ = some (.int .i64 L.t) ∧ Y.cell? ⟨bl, 8, none⟩ = some (.int .i64 L.l) ∧ Y.cell? ⟨bl, 9, none⟩ = some (.int .i64 L.b) ∧ Y.cell? ⟨bl, 10, none⟩ = some (.int .i64 L.q) ∧ Y.cell? ⟨bl, 11, none⟩ = some (.int .i64 L.bd) ∧ Y.cell? ⟨bl, 12, none⟩ = some (.slice L.aw L.mw L.cw) ∧ Y.cell? ⟨bl, 13, none⟩ = some (.slice L.an L.mn L.cn) ∧ Y.cell? ⟨bl, 14, none⟩ = some (.slice L.ab L.mb L.cb)) ∧ (Y.cell? ⟨T, 0, none⟩ = some (.int .i64 ih) ∧ Y.cell? ⟨T, 1, none⟩ = some (.int .i64 iv) ∧ Y.cell? ⟨T, 2, none⟩ = some (.int .i64 ic) ∧ Y.cell? ⟨T, 3, none⟩ = some (.slice (some ⟨g, 0, none⟩) (sz k) cp)) ∧ (Y.cell? ⟨gs, k * 3, none⟩ = some (.int .i64 oh) ∧ Y.cell? ⟨gs, k * 3 + 1, none⟩ = some (.int .i64 ov) ∧ Y.cell? ⟨gs, k * 3 + 2, none⟩ = some (.int .i64 oc)) ∧ Y.heap[M]? = some (.map #[plE1, plE2, plE3] 3))
            (((try dsimp only); (with_reducible refine kpP (V := V) HLV.out K2'.out HSV.out K1'.out ?_); repeat (first | (with_reducible exact Below.refl _ _) | (with_reducible assumption) | (with_reducible refine Below.drew ?_) | (with_reducible refine bl_alloc ?_ _) | (with_reducible refine bl_set ?_ (by first | exact Nat.le_refl _ | exact by1.size) _))))
            ((refine (HCK.out _ _ _ hcp (HLL.out.keep (by repeat (first | (with_reducible exact Below.refl _ _) | (with_reducible refine Below.drew ?_) | (with_reducible refine bl_alloc ?_ _)))) (K3'.out.keep' (by repeat (first | (with_reducible exact Below.refl _ _) | (with_reducible refine Below.drew ?_) | (with_reducible refine bl_alloc ?_ _))))).mono ?_; rintro e y1 ⟨v', rfl, ow, hb1⟩; have by1 : Below V.heap.size V y1 := (bl_step (by repeat (first | (with_reducible exact Below.refl _ _) | (with_reducible refine Below.drew ?_) | (with_reducible refine bl_alloc ?_ _))) hb1); obtain ⟨g', cp', rfl, hg', hgl', hcp', hR'⟩ := own_64 ow hs1; have HR1 := hid1 hR'; have HB1 := hid1 hb1; (try (have VR := World.rowIs.of_block (tn_new V 0 0 0 none 0 0 56).drew (HB1.out.block _ (World.rowIs.lt (tn_new V 0 0 0 none 0 0 56).drew)); obtain ⟨v0, v1, v2, v3⟩ := tn_cells VR; have f0 := VR.frozen 0; have f1 := VR.frozen 1; have f2 := VR.frozen 2; have f3 := VR.frozen 3; have HVR := hid1 VR; clear VR)); clear hb1 ow hR'))
          all_goals (refine kmeet_p (by assumption) ?_; go_meet)
          · exact ⟨_, g', cp', rfl, by1.size, hg', hcp', tn_new _ _ _ _ _ _ _ _, HR1.out.keep' (bl_alloc (Below.refl _ _) _), bl_alloc by1 _⟩
          all_goals
            have zg : V.heap.size + 1 ≤ g' := by simpa using hg'
            refine ⟨_, g', cp', rfl, Nat.le_refl _, by omega, hcp', tn_set HVR.out _ _ _ _ _ _, fun j hj => ?_, bl_set (bl_set (bl_set (bl_set by1 (Nat.le_refl _) _) (Nat.le_refl _) _) (Nat.le_refl _) _) (Nat.le_refl _) _⟩
            obtain ⟨g2, o2, e2, q2⟩ := HR1.out j hj
            cases e2
            exact ⟨_, _, rfl, cell_four q2 (by omega)⟩
        case rest =>
          obtain ⟨O, g', cp', rfl, gO, gg', hcp2, RO, RR, Bc⟩ := hcut
          have J1 := hid1 (K1'.out.keep Bc)
          have J2 := hid1 (World.rowIs.of_block K2'.out (Bc.block _ lTV))
          have J4 := hid1 (World.rowIs.of_block K4'.out (Bc.block _ hcV))
          have JG := hid1 (gr_below HGV.out Bc)
          have JR := hid1 RR
          have JO := hid1 RO
          have JB := hid1 Bc
          have zO := RO.lt
          obtain ⟨t0, t1, t2, t3⟩ := tn_cells RO
          clear RO RR Bc K1' K2' K3' K4' HGV HLV HSV HLL HCK CF LK
          go_wp2_with fail
          refine (run1_any oh ov oc (some ⟨g', 0, none⟩) (sz (k + 1)) cp' cb u wc J4.out).mono ?_
          rintro e y ⟨rfl, RC, gr⟩
          have hOc : O ≠ cb := by omega
          have hgc : g' ≠ cb := by omega
          have hTc : T ≠ cb := by omega
          have zy := gr.size
          have Q1 := hid1 (show Plw y M from (gr.block M J1.out.lt (fun e => by cases e; omega)).trans J1.out)
          have Q2 := hid1 (World.rowIs.of_block J2.out (gr.block T (World.rowIs.lt J2.out) (fun e => by cases e; omega)))
          have QO := hid1 (World.rowIs.of_block JO.out (gr.block O zO (fun e => by cases e; omega)))
          have QR : Hid (R64 y (some ⟨g', 0, none⟩) (sz (k + 1)) (val (k + 1))) := hid1 (fun j hj => by
            obtain ⟨g2, o2, e2, q2⟩ := JR.out j hj
            cases e2
            exact ⟨g', 0, rfl, (World.cell?_of_block (w := wc) (gr.block g' (lt_of_cell q2) (fun e => hgc (Option.some.inj e)))).trans q2⟩)
          have QG := hid1 (gr_step JG.out gr (.inl rfl))
          have QC := hid1 RC
          obtain ⟨t0, t1, t2, t3⟩ := tn_cells QO.out
          obtain ⟨p0, p1, p2, p3⟩ := tn_cells Q2.out
          have f0 := Q2.out.frozen 0
          have f1 := Q2.out.frozen 1
          have f2 := Q2.out.frozen 2
          have f3 := Q2.out.frozen 3
          have lTy := Q2.out.lt
          clear gr RC J1 J2 J4 JG JR JO JB
          go_wp2_with fail
          exact ⟨⟨k + 1, g', cp', .slice (some ⟨g', 0, none⟩) (sz (k + 1)) cp', by omega, by go_num, hcp2, by simpa using lTy, hid1 (gr_four QG.out (by omega)), hid1 ((heap_four (by omega)).trans Q1.out), hid1 (by rw [HOH.out.1, HOH.out.2.1, HOH.out.2.2]; exact tn_set Q2.out _ _ _ _ _ _), hid1 (fun j hj => by
            obtain ⟨g2, o2, e2, q2⟩ := QR.out j hj
            cases e2
            exact ⟨g', 0, rfl, cell_four q2 (by omega)⟩), hid1 (World.rowIs.of_block QC.out (heap_four (by omega))), hid1 (fun _ => ⟨rfl, by omega⟩)⟩, by simp [intOf]; omega⟩
      · have hkN : k = N.ml := by omega
        subst hkN
        go_wp2_with fail
        refine bodyPost_end (v := .tuple #[]) (by simp [results, go_sem]) rfl ⟨rfl, K0.out, ?_⟩
        obtain ⟨rfl, h2⟩ := K5.out (by omega)
        exact ⟨g, cp, K4.out, h2, K3.out⟩
end Go.Proofs.Ytkhlhcbbbhbgeaa.Nn
/- PLAIN: Run of a network that may be, over an input of its size. -/
namespace Go.Proofs.Ytkhlhcbbbhbgeaa.Nn
open Go.RowKit

set_option maxHeartbeats 1600000 in
set_option maxRecDepth 100000 in
theorem ready_ok (N : Nt) (ao : Option Addr) (n cap : Nat) (hz : chE N = 0) (hn : elN N.h N.v N.c = n) (w : World) (hN : NtW w N) :
    Calls Try.prog 12 #[ntv N, .slice ao n cap] w fun e w' => ∃ g, e = .returned (.tuple #[.slice (some ⟨g, 0, none⟩) N.ml N.ml, .int .i64 0]) ∧ w.heap.size ≤ g ∧ w'.rowIs g 28 (N.ml * 3) (shf N N.ml) ∧ Below w.heap.size w w' := by
  have HW := hid1 hN
  have HZ := hid1 hz
  have CE := hid1 (fun W => pelems_any N.h N.v N.c W)
  rw [hn] at CE
  clear hN hz hn
  obtain ⟨b, hb0⟩ : ∃ b, w.heap.size = b := ⟨_, rfl⟩
  go_enter Try.func12, Try.ntmps12
  go_wp2_with fail
  refine gen_calls (fun X => Below w.heap.size w X ∧ Nb X b N) ⟨by repeat (first | (with_reducible exact Below.refl _ _) | (with_reducible refine bl_alloc ?_ _) | (with_reducible refine Below.drew ?_) | (with_reducible refine bl_drewN ?_ _) | (with_reducible refine bl_set ?_ (by omega) _) | (with_reducible refine bl_step ?_ (by assumption))), by rw [← hb0]; exact nb_new _ _ _⟩ ?_
  rintro X ⟨BX, NX⟩
  have CS := nshapes_any N X (HW.out.keep BX)
  rw [HZ.out] at CS
  refine CS.mono ?_
  rintro e w1 ⟨v, rfl, hb, hv⟩
  obtain ⟨g, hg, rfl, RG⟩ := hv.2 HZ.out
  have hgw : w.heap.size ≤ g := Nat.le_trans BX.size hg
  replace BX := bl_step BX hb
  replace NX := NX.keep hb
  have HR := hid1 RG
  clear hb hv CS hg RG
  obtain ⟨n0, n1, n2, n3, n4⟩ := NX
  go_wp2_with fail
  refine (CE.out w1).mono ?_
  rintro e w2 ⟨rfl, hb⟩
  replace BX := bl_step BX hb
  replace HR := hid1 (World.rowIs.of_block HR.out (hb.block _ (World.rowIs.lt HR.out)))
  clear hb
  go_wp2_with fail
  go_ret2
  exact ⟨g, rfl, hgw, HR.out, BX⟩
/-- Result's two cells. -/
def rsf (xo : Option Addr) (m c : Nat) (a : Int) : Nat → Value := fun i => if i = 0 then .slice xo m c else .int .i64 a
theorem cell_two' {Y : World} {b c i j k : Nat} {u v x : Value} (h : Y.cell? ⟨b, i, none⟩ = some x) (hn : b ≠ c) : ((Y.setCell ⟨c, j, none⟩ u).setCell ⟨c, k, none⟩ v).drew.cell? ⟨b, i, none⟩ = some x := by
  have e : ((Y.setCell ⟨c, j, none⟩ u).setCell ⟨c, k, none⟩ v).heap[b]? = Y.heap[b]? := by rw [Below.heap_setCell _ _ _ _ (by show b ≠ c; exact hn), Below.heap_setCell _ _ _ _ (by show b ≠ c; exact hn)]
  exact (World.cell?_of_block (w := Y) e).trans h
theorem rs_new (W : World) (xo : Option Addr) (m c : Nat) (a : Int) (t : TypeId) : (W.alloc (.cells #[.slice xo m c, .int .i64 a] t)).rowIs W.heap.size t 2 (rsf xo m c a) :=
  World.rowIs_alloc W _ t _ fun i hi => by
    rcases i with _ | _ | i
    · rfl
    · rfl
    · simp at hi; omega
set_option maxHeartbeats 3200000 in
set_option maxRecDepth 100000 in
theorem prun_ok (N : Nt) (sz : Nat → Nat) (val : Nat → Nat → Int) (hz : chE N = 0) (hn : elN N.h N.v N.c = sz 0) (hwk : ∀ i, i < N.ml → Wrk N sz val i) (hsm : sz N.ml ≤ 16777216) (ao : Option Addr) (cap : Nat) (f : Nat → Int) (hf : ∀ j, j < sz 0 → s8 (f j) = val 0 j) (w : World) (hN : NtW w N) (hx : RB w ao (sz 0) f) :
    Calls Try.prog 8 #[ntv N, .slice ao (sz 0) cap] w fun e w' => ∃ g cp, e = .returned (.tuple #[.agg #[.slice (some ⟨g, 0, none⟩) (sz N.ml) cp, .int .i64 (grV (val N.ml) (sz N.ml))], .int .i64 0]) ∧ w.heap.size ≤ g ∧ R64 w' (some ⟨g, 0, none⟩) (sz N.ml) (val N.ml) ∧ Below w.heap.size w w' := by
  have HW := hid1 hN
  have HX := hid1 hx
  have hml : 1 ≤ N.ml ∧ N.ml ≤ 64 := by
    have h0 : whE N = 0 := by
      unfold chE at hz
      by_cases h0 : whE N = 0
      · exact h0
      · rw [if_neg h0] at hz; exact absurd hz h0
    exact (wh_parts h0).2.2
  have hs0 : sz 0 ≤ 16777216 := by have := el_bd N.h N.v N.c; omega
  have CR := hid1 (fun W (h : Below w.heap.size w W) => ready_ok N ao (sz 0) cap hz hn W (HW.out.keep h))
  have CP := hid1 (fun gs cb u0 W (h : Below w.heap.size w W) => fun h1 h2 h3 => pass_any N sz val hml hwk ao cap f hs0 hf gs cb u0 W (HW.out.keep h) (HX.out.keep h) h1 h2 h3)
  clear hN hx hz hn hwk hf
  obtain ⟨b, hb0⟩ : ∃ b, w.heap.size = b := ⟨_, rfl⟩
  go_enter Try.func8, Try.ntmps8
  go_wp2_with fail
  refine gen_calls (fun X => Below w.heap.size w X ∧ Nb X b N ∧ X.rowIs (b + 1) 38 2 (rsf none 0 0 0)) ⟨by repeat (first | (with_reducible exact Below.refl _ _) | (with_reducible refine bl_alloc ?_ _) | (with_reducible refine Below.drew ?_) | (with_reducible refine bl_drewN ?_ _) | (with_reducible refine bl_set ?_ (by omega) _) | (with_reducible refine bl_step ?_ (by assumption))), by rw [← hb0]; exact (nb_new _ _ _).keep (bl_alloc (Below.refl _ _) _), by have := rs_new (w.alloc (.cells #[.string N.nm, .int .i64 N.h, .int .i64 N.v, .int .i64 N.c, .slice N.al N.ml N.cl] 31)) none 0 0 0 38; rw [show (w.alloc (.cells #[.string N.nm, .int .i64 N.h, .int .i64 N.v, .int .i64 N.c, .slice N.al N.ml N.cl] 31)).heap.size = b + 1 by simp [hb0]] at this; exact this⟩ ?_
  rintro X ⟨BX, NX, RX⟩
  refine (CR.out X BX).mono ?_
  rintro e w1 ⟨gs, rfl, hgs, RS, hb⟩
  replace BX := bl_step BX hb
  replace NX := NX.keep hb
  replace RX := World.rowIs.of_block RX (hb.block _ RX.lt)
  clear hb CR
  obtain ⟨cb, hcb⟩ : ∃ c, w1.heap.size = c := ⟨_, rfl⟩
  go_upto_region 5 with fail
  have lgs := RS.lt
  have lRX := RX.lt
  refine gen_world (fun Y => Below w.heap.size w Y ∧ Nb Y b N ∧ Y.rowIs (b + 1) 38 2 (rsf none 0 0 0) ∧ Y.rowIs gs 28 (N.ml * 3) (shf N N.ml) ∧ Y.rowIs cb 34 1 (fun _ => .slice none 0 0) ∧ gs < cb ∧ b + 1 < cb) ⟨by repeat (first | (with_reducible exact Below.refl _ _) | (with_reducible refine bl_alloc ?_ _) | (with_reducible refine Below.drew ?_) | (with_reducible refine bl_drewN ?_ _) | (with_reducible refine bl_set ?_ (by omega) _) | (with_reducible refine bl_step ?_ (by assumption))), NX.keep (bl_alloc (Below.refl _ _) _), RX.alloc _, RS.alloc _, by rw [← hcb]; exact World.rowIs_alloc w1 #[.slice none 0 0] 34 _ (fun i hi => by simp at hi; subst hi; rfl), by omega, by omega⟩ ?_
  clear BX NX RX RS hcb lgs lRX
  rintro Y ⟨BY, NY, RY, SY, CY, hgc, hbc⟩
  have C1 := CP.out gs cb (.slice none 0 0) Y BY SY CY (fun Z hZ => ⟨HW.out.keep (gr_bel hZ BY (fun k e => by cases e; omega)), World.rowIs.of_block SY (hZ.block gs SY.lt (fun e => by cases e; omega))⟩)
  obtain ⟨n0, n1, n2, n3, n4⟩ := NY
  have HRY := hid1 RY
  have HBY := hid1 BY
  have lRY := RY.lt
  clear RY SY CY BY
  go_wp2_with fail
  refine C1.mono ?_
  rintro e y1 ⟨rfl, gr, g, cp, RC, hg, RR⟩
  have BY1 := hid1 (gr_bel gr HBY.out (fun k e => by cases e; omega))
  have HRR := hid1 (World.rowIs.of_block HRY.out (gr.block (b + 1) lRY (fun e => by cases e; omega)))
  have gw : w.heap.size ≤ g := by have := HBY.out.size; omega
  have gn : b + 1 < g := by omega
  have c0 := RC.cell (i := 0) (by decide)
  have CG := hid1 (greatest_any (some ⟨g, 0, none⟩) (sz N.ml) cp (val N.ml) y1.drew hsm RR)
  have HR64 := hid1 RR
  clear gr RC hg RR C1 HBY HRY n0 n1 n2 n3 n4
  have r0 := HRR.out.cell (i := 0) (by decide)
  have r1 := HRR.out.cell (i := 1) (by decide)
  have f0 := HRR.out.frozen 0
  have f1 := HRR.out.frozen 1
  have hl1 := HRR.out.lt
  go_upto_region 6 with fail
  refine still_tailP 4 (by kernel_rfl) ?_
  simp only [List.take_succ_cons, List.take_zero, List.drop_succ_cons, List.drop_zero]
  repeat still_step
  still_call CG.out
  repeat still_step
  refine wpStill_nil ?_
  go_wp2
  refine bodyPost_ret (v := .tuple #[.agg #[.slice (some ⟨g, 0, none⟩) (sz N.ml) cp, .int .i64 (grV (val N.ml) (sz N.ml))], .int .i64 0]) (by simp [results, Try.results8, go_sem, *]) rfl ⟨g, cp, rfl, gw, fun j hj => ?_, ?_⟩
  · obtain ⟨g2, o2, e2, q2⟩ := HR64.out j hj
    cases e2
    exact ⟨g, 0, rfl, cell_two' q2 (by omega)⟩
  · have := BY1.out
    exact (bl_set (bl_set this (by omega) _) (by omega) _).drew
end Go.Proofs.Ytkhlhcbbbhbgeaa.Nn
