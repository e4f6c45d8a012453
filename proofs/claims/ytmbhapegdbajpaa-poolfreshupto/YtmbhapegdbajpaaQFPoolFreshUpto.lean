import Derived.Test.YtmbhapegdbajpaaQEPoolFreshUpto
import Derived.ArgAppend
/- PoolFresh: the Book: far, whole. -/
namespace Go.Proofs.Ytmbhapegdbajpaa
open Go.RowKit Go.Shelf

theorem far_zero (w : World) : Calls Try.prog 17 #[.int .i64 0] w fun e w' => e = .returned (.int .i64 1) ∧ w' = w := by
  go_enter Try.func17, Try.ntmps17
  go_wp2
  go_ret
  exact ⟨rfl, rfl⟩
/-- A list that the Book holds. -/
structure Br where
  ao : Option Addr
  m : Nat
  cap : Nat
def lcsU (l : List Br) : List Value := l.map fun x => .slice x.ao x.m x.cap
theorem lcsU_at (l : List Br) (i : Nat) (h : i < l.length) : (lcsU l)[i]? = some (.slice l[i].ao l[i].m l[i].cap) := by
  unfold lcsU; rw [List.getElem?_map, List.getElem?_eq_getElem h]; rfl
/-- The Book's two cells. -/
def bkf (v : Value) (z : Int) : Nat → Value := fun k => if k = 0 then v else .int .i64 z
/-- A list full of its mark, in a block that is none of S. -/
def Bm (W : World) (S : Nat → Prop) (x : Br) (mark : Nat) : Prop := x.m = 0 ∨ ∃ g K f, x.ao = some ⟨g, 0, none⟩ ∧ W.rowIs g 47 K f ∧ x.m ≤ K ∧ (∀ k, k < x.m → f k = .int .u64 ((mark : Nat) : Int)) ∧ ¬ S g
structure Bk (W : World) (S : Nat → Prop) (bb base : Nat) (v : Value) (z : Int) (l : List Br) : Prop where
  bo : W.rowIs bb 29 2 (bkf v z)
  ow : W.ownsRow base 33 1 v l.length (lcsU l)
  ls : ∀ i (h : i < l.length), Bm W S l[i] (77000 + i / 2) ∧ l[i].m ≤ 1073741825
theorem Bm.below {W W' : World} {S : Nat → Prop} {x : Br} {mark : Nat} (h : Bm W S x mark) (hb : Below W.heap.size W W') : Bm W' S x mark := by
  rcases h with h | ⟨g, K, f, h1, h2, h3⟩
  · exact .inl h
  · exact .inr ⟨g, K, f, h1, keepr hb h2, h3⟩
theorem Bk.below {W W' : World} {S : Nat → Prop} {bb base : Nat} {v : Value} {z : Int} {l : List Br} (h : Bk W S bb base v z l) (hb : Below W.heap.size W W') : Bk W' S bb base v z l :=
  ⟨keepr hb h.bo, own_keepU h.ow hb, fun i hi => ⟨(h.ls i hi).1.below hb, (h.ls i hi).2⟩⟩
theorem own_lenB {w : World} {base : Nat} {e : TypeId} {size : Nat} {v : Value} {n : Nat} {xs : List Value} (h : w.ownsRow base e size v n xs) : ∃ ao cap, v = .slice ao n cap ∧ (0 < n → ∃ g, ao = some ⟨g, 0, none⟩) := by
  rcases h.2 with ⟨rfl, h0⟩ | ⟨g, cap, cur, rfl, _⟩
  · exact ⟨Option.none, 0, by rw [h0], fun z => by omega⟩
  · exact ⟨_, cap, rfl, fun _ => ⟨g, rfl⟩⟩
theorem conv_mark {i : Nat} (h : i ≤ 1099511627776) : IntKind.u64.wrap (77000 + ((i / 2 : Nat) : Int)) = ((77000 + i / 2 : Nat) : Int) := by
  rw [IntKind.wrap_u64]; omega
set_option maxHeartbeats 3200000 in
set_option maxRecDepth 100000 in
theorem whole_any (S : Nat → Prop) (bb base : Nat) (v : Value) (z : Int) (l : List Br) (w : World) (hl : l.length ≤ 1099511627776) (bk : Bk w S bb base v z l) :
    Calls Try.prog 11 #[.pointer (some ⟨bb, 0, none⟩)] w fun e w' => e = .returned (.bool true) ∧ w' = w := by
  obtain ⟨ao, cap, rfl, ha⟩ := own_lenB bk.ow
  have c0 : w.cell? ⟨bb, 0, none⟩ = some (.slice ao l.length cap) := bk.bo.cell (i := 0) (by omega)
  have HBK := hid1 bk
  obtain ⟨nl, hnl⟩ : ∃ nl, l.length = nl := ⟨_, rfl⟩
  have HNL := hid1 hnl
  rw [hnl] at c0 ha hl
  clear bk hnl
  go_enter Try.func11, Try.ntmps11
  go_wp2_with fail
  go_loopw [3] (fun i wr => ∃ k : Nat, k ≤ nl ∧ i = .int .i64 k ∧ wr = w) (fun i _ => nl - (intOf i).toNat)
  case atStart => exact ⟨0, Nat.zero_le _, rfl, rfl⟩
  case round =>
    obtain ⟨k, hk, rfl, rfl⟩ := hrel
    by_cases hlt : k < nl
    · obtain ⟨g, rfl⟩ := ha (by omega)
      have hkl : k < l.length := by rw [HNL.out]; exact hlt
      obtain ⟨x, hx⟩ : ∃ x, l[k] = x := ⟨_, rfl⟩
      have cx := HBK.out.ow.cells (g := g) rfl k _ (lcsU_at l k hkl)
      rw [hx] at cx
      rw [show (⟨g, 0, none⟩ : Addr).add k = ⟨g, k, none⟩ by rcases k with _ | k <;> simp [Addr.add]] at cx
      have hbm := HBK.out.ls k hkl
      rw [hx] at hbm
      obtain ⟨xo, xm, xc⟩ := x
      have HBM := hid1 hbm.1
      have hxm : xm ≤ 1073741825 := hbm.2
      dsimp only at cx
      clear hbm hx
      have ik : (k : Int) < (nl : Int) := by omega
      have ik0 : (0 : Int) ≤ (k : Int) := by omega
      have i2 : (k : Int) / 2 = ((k / 2 : Nat) : Int) := by omega
      have i2' : (k : Int).tdiv 2 = ((k / 2 : Nat) : Int) := by rw [Int.tdiv_eq_ediv_of_nonneg (by omega)]; exact i2
      have hcv := conv_mark (i := k) (by omega)
      obtain ⟨mk, hmk⟩ : ∃ mk, 77000 + k / 2 = mk := ⟨_, rfl⟩
      rw [hmk] at HBM hcv
      have hk2 : k / 2 ≤ 1099511627776 := by omega
      generalize k / 2 = k2 at *
      go_wp2_with fail
      go_loopw [4] (fun i wr' => ∃ j : Nat, j ≤ xm ∧ i = .int .i64 j ∧ wr' = wr) (fun i _ => xm - (intOf i).toNat)
      case atStart => exact ⟨0, Nat.zero_le _, rfl, rfl⟩
      case round =>
        obtain ⟨j, hj, rfl, rfl⟩ := hrel
        by_cases hjl : j < xm
        · rcases HBM.out with h0 | ⟨g2, K, f, e1, row, hK, hf, _⟩
          · have : xm = 0 := h0
            omega
          · dsimp only at e1 hK hf
            subst e1
            have cj := row.cell (i := j) (by omega)
            rw [hf j hjl] at cj
            have ij : (j : Int) < (xm : Int) := by omega
            have ij0 : (0 : Int) ≤ (j : Int) := by omega
            clear row
            go_wp2_with fail
            exact ⟨⟨j + 1, by omega, by go_num, trivial⟩, by simp [intOf]; omega⟩
        · obtain rfl : j = xm := by omega
          go_wp2_with fail
          exact ⟨⟨k + 1, by omega, by go_num, by first | rfl | trivial⟩, by simp [intOf]; omega⟩
    · obtain rfl : k = nl := by omega
      go_wp2_with fail
      go_ret
      exact ⟨rfl, rfl⟩
end Go.Proofs.Ytmbhapegdbajpaa
/- PoolFresh: the Book takes a list. -/
namespace Go.Proofs.Ytmbhapegdbajpaa
open Go.RowKit Go.Shelf

/-- Nothing old has turned but blocks of X. -/
structure FB (X : Nat → Prop) (w W : World) : Prop where
  os : W.os = w.os
  tape : W.tape = w.tape
  output : W.output = w.output
  size : w.heap.size ≤ W.heap.size
  block : ∀ k, k < w.heap.size → ¬ X k → W.heap[k]? = w.heap[k]?
theorem FB.refl (X : Nat → Prop) (w : World) : FB X w w := ⟨rfl, rfl, rfl, Nat.le_refl _, fun _ _ _ => rfl⟩
theorem FB.but {X : Nat → Prop} {w W W' : World} {g : Nat} (h : FB X w W) (hb : But g W W') (hg : X g ∨ w.heap.size ≤ g) : FB X w W' :=
  ⟨hb.os.trans h.os, hb.tape.trans h.tape, hb.output.trans h.output, Nat.le_trans h.size hb.size, fun k hk hx => (hb.block k (Nat.lt_of_lt_of_le hk h.size) (fun e => by subst e; rcases hg with hg | hg; exact hx hg; omega)).trans (h.block k hk hx)⟩
theorem FB.below {X : Nat → Prop} {w W W' : World} (h : FB X w W) (hb : Below W.heap.size W W') : FB X w W' :=
  ⟨hb.os.trans h.os, hb.tape.trans h.tape, hb.output.trans h.output, Nat.le_trans h.size hb.size, fun k hk hx => (hb.block k (Nat.lt_of_lt_of_le hk h.size)).trans (h.block k hk hx)⟩
theorem FB.grown {X : Nat → Prop} {w W W' : World} {row : Option Nat} (h : FB X w W) (hg : W.grownBy W' row) (hr : ∀ r, row = some r → X r ∨ w.heap.size ≤ r) : FB X w W' :=
  ⟨hg.os.trans h.os, hg.tape.trans h.tape, hg.output.trans h.output, Nat.le_trans h.size hg.size, fun k hk hx => (hg.block k (Nat.lt_of_lt_of_le hk h.size) (fun e => by rcases hr k e.symm with z | z; exact hx z; omega)).trans (h.block k hk hx)⟩
theorem FB.row {X : Nat → Prop} {w W : World} {g t n : Nat} {f : Nat → Value} (h : FB X w W) (r : w.rowIs g t n f) (hx : ¬ X g) : W.rowIs g t n f := r.of_block (h.block g r.lt hx)
/-- A list that is to be written over. -/
def LwB (W : World) (S : Nat → Prop) (lo : Option Addr) (m : Nat) : Prop := (lo = none ∧ m = 0) ∨ ∃ G f, lo = some ⟨G, 0, none⟩ ∧ W.rowIs G 47 m f ∧ S G
def fillf (mk : Nat) (f : Nat → Value) (i : Nat) : Nat → Value := fun k => if k < i then .int .u64 ((mk : Nat) : Int) else f k
theorem fill_step {mk : Nat} {f : Nat → Value} {i : Nat} (j : Nat) : (if j = i then .int .u64 ((mk : Nat) : Int) else fillf mk f i j) = fillf mk f (i + 1) j := by
  unfold fillf
  by_cases e : j = i
  · subst e; rw [if_pos rfl, if_pos (Nat.lt_succ_self _)]
  · rw [if_neg e]
    by_cases h : j < i
    · rw [if_pos h, if_pos (by omega)]
    · rw [if_neg h, if_neg (by omega)]
theorem bk_ne {W : World} {bb G k m : Nat} {f g : Nat → Value} (r : W.rowIs bb 29 k f) (q : W.rowIs G 47 m g) : G ≠ bb := by
  intro e
  subst e
  obtain ⟨c, hc, _⟩ := q
  obtain ⟨c', hc', _⟩ := r
  rw [hc] at hc'
  injection hc' with hc'
  injection hc' with _ h2 _
  exact absurd h2 (by decide)
theorem bk_set1 {w : World} {b t : Nat} {v : Value} {z : Int} (r : w.rowIs b t 2 (bkf v z)) (y : Int) : (w.setCell ⟨b, 1, none⟩ (.int .i64 y)).rowIs b t 2 (bkf v y) :=
  (r.set 1 _).congr fun k hk => by
    rcases k with _ | _ | k
    · rfl
    · rfl
    · omega
theorem bk_set0 {w : World} {b t : Nat} {v : Value} {z : Int} (r : w.rowIs b t 2 (bkf v z)) (u : Value) : (w.setCell ⟨b, 0, none⟩ u).rowIs b t 2 (bkf u z) :=
  (r.set 0 _).congr fun k hk => by
    rcases k with _ | _ | k
    · rfl
    · rfl
    · omega
theorem info_u64s : (Try.prog.info? 33).map (fun i => (i.zero, i.size, i.bytes)) = some (some (.slice none 0 0), 1, 24) := by kernel_rfl
theorem und_u64ss : Try.prog.underlying 27 = some (.slice 33) := by kernel_rfl
theorem own_rowB {W : World} {base g n cap : Nat} {xs : List Value} (h : W.ownsRow base 47 1 (.slice (some ⟨g, 0, none⟩) n cap) n xs) : ∃ K f, W.rowIs g 47 K f ∧ n ≤ K ∧ ∀ k, k < n → some (f k) = xs[k]? := by
  rcases h.2 with ⟨h1, _⟩ | ⟨g', cap', cur, h1, _, hg, hn, _, hsz, htk⟩
  · cases h1
  · cases h1
    refine ⟨cur.size, fun k => (cur[k]?).getD undef, ⟨cur, hg, rfl, fun k hk => by simp [hk]⟩, by omega, fun k hk => ?_⟩
    have hlt : k < cur.size := by omega
    rw [← htk, List.getElem?_take_of_lt (by omega)]
    simp [hlt]
/-- What take has in memory when the list is full. -/
structure TK (w W : World) (S : Nat → Prop) (bb base : Nat) (v : Value) (z : Int) (l : List Br) (lo : Option Addr) (m mk : Nat) : Prop where
  bo : W.rowIs bb 29 2 (bkf v z)
  ow : W.ownsRow base 33 1 v l.length (lcsU l)
  lr : (lo = none ∧ m = 0) ∨ ∃ G, lo = some ⟨G, 0, none⟩ ∧ S G ∧ W.rowIs G 47 m (fun _ => .int .u64 ((mk : Nat) : Int))
  fb : FB (fun k => k = bb ∨ lo = some ⟨k, 0, none⟩ ∨ v.ownBlock = some k) w W
theorem TK.size {w W : World} {S : Nat → Prop} {bb base : Nat} {v : Value} {z : Int} {l : List Br} {lo : Option Addr} {m mk : Nat} (h : TK w W S bb base v z l lo m mk) (y : Int) : TK w (W.setCell ⟨bb, 1, none⟩ (.int .i64 y)) S bb base v y l lo m mk := by
  have bt : But bb W (W.setCell ⟨bb, 1, none⟩ (.int .i64 y)) := (But.refl _ _).set _
  refine ⟨bk_set1 h.bo y, own_butU h.ow bt h.bo (by decide), ?_, h.fb.but bt (.inl (.inl rfl))⟩
  rcases h.lr with e | ⟨G, e1, e2, e3⟩
  · exact .inl e
  · exact .inr ⟨G, e1, e2, bt.row (bk_ne h.bo e3) e3⟩
theorem TK.old {w W : World} {S : Nat → Prop} {bb base : Nat} {v : Value} {z0 : Int} {l : List Br} {lo : Option Addr} (b0 : Bk w S bb base v z0 l) (hlo : ∀ G, lo = some ⟨G, 0, none⟩ → S G) (fb : FB (fun k => k = bb ∨ lo = some ⟨k, 0, none⟩ ∨ v.ownBlock = some k) w W) (i : Nat) (hi : i < l.length) : Bm W (fun b => S b ∧ lo ≠ some ⟨b, 0, none⟩) l[i] (77000 + i / 2) ∧ l[i].m ≤ 1073741825 := by
  refine ⟨?_, (b0.ls i hi).2⟩
  rcases (b0.ls i hi).1 with e | ⟨g, K, f, e1, row, e3, e4, e5⟩
  · exact .inl e
  · refine .inr ⟨g, K, f, e1, fb.row row ?_, e3, e4, fun z => e5 z.1⟩
    rintro (e | e | e)
    · exact bk_ne b0.bo row e
    · exact e5 (hlo g e)
    · exact own_row_neU b0.ow row (by decide) e
set_option maxHeartbeats 6400000 in
set_option maxRecDepth 100000 in
theorem take_any (S : Nat → Prop) (bb base : Nat) (v : Value) (z : Int) (l : List Br) (p : Nat) (hp : l.length = 2 * p) (lo : Option Addr) (m : Nat) (w : World) (hpl : p ≤ 268435456) (hm : m ≤ 1073741824) (hS : ∀ b, S b → b < w.heap.size) (hbase : base ≤ w.heap.size) (bk : Bk w S bb base v z l) (lw : LwB w S lo m) :
    Calls Try.prog 10 #[.pointer (some ⟨bb, 0, none⟩), .slice lo m m] w fun e w' => e = .returned (.tuple #[]) ∧ ∃ v' z' l' p', l'.length = 2 * p' ∧ p' ≤ p + 1 ∧ Bk w' (fun b => S b ∧ lo ≠ some ⟨b, 0, none⟩) bb base v' z' l' ∧ FB (fun k => k = bb ∨ lo = some ⟨k, 0, none⟩ ∨ v.ownBlock = some k) w w' := by
  obtain ⟨ao, cap, rfl, ha⟩ := own_lenB bk.ow
  have c0 : w.cell? ⟨bb, 0, none⟩ = some (.slice ao l.length cap) := bk.bo.cell (i := 0) (by omega)
  have c1 : w.cell? ⟨bb, 1, none⟩ = some (.int .i64 z) := bk.bo.cell (i := 1) (by omega)
  rw [hp] at c0
  have i2 : ((2 * p : Nat) : Int) / 2 = (p : Int) := by omega
  have i2' : ((2 * p : Nat) : Int).tdiv 2 = (p : Int) := by rw [Int.tdiv_eq_ediv_of_nonneg (by omega)]; exact i2
  obtain ⟨p2, hp2⟩ : ∃ x, 2 * p = x := ⟨_, rfl⟩
  rw [hp2] at c0 i2 i2'
  have hcv : IntKind.u64.wrap (77000 + (p : Int)) = ((77000 + p : Nat) : Int) := by rw [IntKind.wrap_u64]; omega
  obtain ⟨mk, hmk⟩ : ∃ mk, 77000 + p = mk := ⟨_, rfl⟩
  rw [hmk] at hcv
  have HBK := hid1 bk
  have HLW := hid1 lw
  clear bk lw
  go_enter Try.func10, Try.ntmps10
  go_wp2_with fail
  go_loopw [5] (fun i wr => ∃ k : Nat, k ≤ m ∧ i = .int .i64 k ∧ ((lo = none ∧ m = 0 ∧ wr = w) ∨ ∃ G f, lo = some ⟨G, 0, none⟩ ∧ S G ∧ wr.rowIs G 47 m (fillf mk f k) ∧ But G w wr)) (fun i _ => m - (intOf i).toNat)
  case atStart =>
    refine ⟨0, Nat.zero_le _, rfl, ?_⟩
    rcases HLW.out with ⟨h1, h2⟩ | ⟨G, f, h1, h2, h3⟩
    · exact .inl ⟨h1, h2, rfl⟩
    · exact .inr ⟨G, f, h1, h3, h2.congr fun j _ => by simp [fillf], But.refl _ _⟩
  case round =>
    obtain ⟨k, hk, rfl, hor⟩ := hrel
    by_cases hlt : k < m
    · rcases hor with ⟨_, h0, _⟩ | ⟨G, f, rfl, hSG, row, bt⟩
      · omega
      · have ik : (k : Int) < (m : Int) := by omega
        have ik0 : (0 : Int) ≤ (k : Int) := by omega
        have cc := row.cell hlt
        have ff := row.frozen k
        have R := hid1 row
        have B := hid1 bt
        clear row bt
        go_wp2_with fail
        exact ⟨⟨k + 1, by omega, by go_num, .inr ⟨G, f, by simp, hSG, (R.out.set k _).congr fun j _ => fill_step j, B.out.set _⟩⟩, by simp [intOf]; omega⟩
    · obtain rfl : k = m := by omega
      have hlo : ∀ G, lo = some ⟨G, 0, none⟩ → S G := fun G e => by
        rcases HLW.out with ⟨h1, _⟩ | ⟨G', f, h1, _, h3⟩
        · rw [h1] at e; cases e
        · rw [h1] at e; cases e; exact h3
      have tk : TK w wr S bb base (.slice ao l.length cap) z l lo k mk := by
        rcases hor with ⟨h1, h2, rfl⟩ | ⟨G, f, h1, h2, row, bt⟩
        · exact ⟨HBK.out.bo, HBK.out.ow, .inl ⟨h1, h2⟩, FB.refl _ _⟩
        · rcases HLW.out with ⟨h3, _⟩ | ⟨G', f', h3, row0, _⟩
          · rw [h1] at h3; cases h3
          · rw [h1] at h3
            cases h3
            exact ⟨bt.row (Ne.symm (bk_ne HBK.out.bo row0)) HBK.out.bo, own_butU HBK.out.ow bt row0 (by decide), .inr ⟨G, h1, h2, row.congr fun j hj => by unfold fillf; rw [if_pos hj]⟩, (FB.refl _ _).but bt (.inl (.inr (.inl h1)))⟩
      clear hor c0 c1
      rename World => Y
      have c0 : Y.cell? ⟨bb, 0, none⟩ = some (.slice ao l.length cap) := tk.bo.cell (i := 0) (by omega)
      have c1 : Y.cell? ⟨bb, 1, none⟩ = some (.int .i64 z) := tk.bo.cell (i := 1) (by omega)
      have f1 := tk.bo.frozen 1
      go_upto_region 5 with fail
      go_cut [] from 26 to 37 (fun wx => ∃ y : Int, TK w wx S bb base (.slice ao l.length cap) y l lo k mk)
      case first =>
        as_aux_lemma =>
          go_wp2_with fail
          go_meet
          exact ⟨_, tk.size _⟩
      case rest =>
        obtain ⟨y, tk2⟩ := hcut
        rename World => Y2
        clear tk c0 c1 f1
        have c0 : Y2.cell? ⟨bb, 0, none⟩ = some (.slice ao l.length cap) := tk2.bo.cell (i := 0) (by omega)
        have c1 : Y2.cell? ⟨bb, 1, none⟩ = some (.int .i64 y) := tk2.bo.cell (i := 1) (by omega)
        by_cases hy : 33554432 < y
        · go_wp2_with fail
          refine bodyPost_ret (v := .tuple #[]) (by simp [results, Try.results10, go_sem]) rfl ⟨rfl, .slice ao l.length cap, y, l, p, hp, by omega, ⟨tk2.bo, tk2.ow, fun i hi => TK.old HBK.out hlo tk2.fb i hi⟩, tk2.fb⟩
        · obtain ⟨i0, hi, hz0, hz1, hz2⟩ := info_parts info_u64
          have HTK := hid1 tk2
          clear tk2
          go_wp2_with fail
          go_loopw [6, 7] (fun gv i wr => (i = .int .i64 0 ∧ gv = .slice lo k k ∧ wr = Y2) ∨ (i = .int .i64 1 ∧ ∃ g2 K2, gv = .slice (some ⟨g2, 0, none⟩) (k + 1) K2 ∧ Y2.heap.size ≤ g2 ∧ wr.ownsRow Y2.heap.size 47 1 (.slice (some ⟨g2, 0, none⟩) (k + 1) K2) (k + 1) (List.replicate k (.int .u64 ((mk : Nat) : Int)) ++ [.int .u64 ((mk : Nat) : Int)]) ∧ Below Y2.heap.size Y2 wr)) (fun _ i _ => 1 - (intOf i).toNat)
          case atStart => exact .inl ⟨rfl, rfl, rfl⟩
          case round =>
            rename World => V
            rcases hrel with ⟨rfl, rfl, rfl⟩ | ⟨rfl, g2, K2, rfl, hg2, own2, B2⟩
            · go_wp2_with fail
              refine (far_zero _).mono ?_
              rintro e w3 ⟨rfl, rfl⟩
              have hnone : lo = none → k = 0 ∧ k = 0 := fun e => by
                rcases HTK.out.lr with ⟨_, h2⟩ | ⟨G, h1, _⟩
                · exact ⟨h2, h2⟩
                · rw [h1] at e; cases e
              have hold : ∀ b, lo = some b → ∀ j u, (List.replicate k (Value.int .u64 ((mk : Nat) : Int)))[j]? = some u → (w3.alloc (.cells #[.int .u64 ((mk : Nat) : Int)] 47)).cell? (b.add j) = some u := fun b e j u hu => by
                rcases HTK.out.lr with ⟨h1, _⟩ | ⟨G, h1, _, row⟩
                · rw [h1] at e; cases e
                · rw [h1] at e
                  cases e
                  have hj : j < k := by
                    rcases Nat.lt_or_ge j k with h | h
                    · exact h
                    · rw [List.getElem?_eq_none (by simpa using h)] at hu; cases hu
                  rw [List.getElem?_replicate, if_pos hj] at hu
                  cases hu
                  have := (row.alloc (.cells #[.int .u64 ((mk : Nat) : Int)] 47)).cell hj
                  rcases j with _ | j <;> simpa [Addr.add] using this
              go_wp2_with (at_builtin; refine wpList_append_grows _ rfl _ _ 33 rfl 47 i0 (.int .u64 0) 1 8 und_u64s hi hz0 hz1 hz2 rfl (by decide) lo k k (List.replicate k (.int .u64 ((mk : Nat) : Int))) (by go_simp) hnone (by simp) hold ⟨w3.heap.size, 0, none⟩ 1 1 [.int .u64 ((mk : Nat) : Int)] (by go_simp) rfl (fun j u hu => by rcases j with _ | j; simp at hu; subst hu; simp [Addr.add, go_sem]; simp at hu) (fun u hu => by simp at hu; subst hu; rfl) (by omega) (by unfold maxLen; omega) (by omega) ?_; intro v2 w4 ow4 gr4)
              rcases ow4.2 with ⟨_, h0⟩ | ⟨g2, K2, cur, rfl, hg2, _⟩
              · omega
              · refine ⟨.inr ⟨by go_num, g2, K2, rfl, ?_, ?_, ?_⟩, by simp [intOf]⟩
                · have : w3.heap.size ≤ (w3.alloc (.cells #[.int .u64 ((mk : Nat) : Int)] 47)).heap.size := by simp
                  omega
                · refine ⟨ow4.1, ?_⟩
                  rcases ow4.2 with h0 | ⟨g3, K3, cur3, e3, hg3, h3⟩
                  · exact .inl h0
                  · exact .inr ⟨g3, K3, cur3, e3, by simp at hg3; omega, h3⟩
                · exact (bl_alloc (Below.refl _ _) _).grown gr4 (by simp) (fun q hq => by cases hq)
            · obtain ⟨j0, hj, hy0, hy1, hy2⟩ := info_parts info_u64s
              have bo3 := keepr B2 HTK.out.bo
              have ow3 := own_keepU HTK.out.ow B2
              have lr3 : (lo = none ∧ k = 0) ∨ ∃ G, lo = some ⟨G, 0, none⟩ ∧ S G ∧ V.rowIs G 47 k (fun _ => .int .u64 ((mk : Nat) : Int)) := by
                rcases HTK.out.lr with e | ⟨G, e1, e2, e3⟩
                · exact .inl e
                · exact .inr ⟨G, e1, e2, keepr B2 e3⟩
              have fb3 := HTK.out.fb.below B2
              obtain ⟨K, f, rg2, hK, hf⟩ := own_rowB own2
              have z2 := HTK.out.fb.size
              have zV := B2.size
              clear c0 c1
              have c0 : V.cell? ⟨bb, 0, none⟩ = some (.slice ao l.length cap) := bo3.cell (i := 0) (by omega)
              have f0 := bo3.frozen 0
              have lbb := bo3.lt
              go_wp2_with fail
              refine (far_zero _).mono ?_
              rintro e w3 ⟨rfl, rfl⟩
              go_wp2_with (at_builtin; refine wpList_append_own_at _ rfl _ _ 27 rfl base 33 j0 (.slice none 0 0) 1 24 und_u64ss hj hy0 hy1 hy2 rfl (by decide) (.slice ao l.length cap) l.length (lcsU l) (by go_simp) (ow3.alloc _) ⟨w3.heap.size, 0, none⟩ 2 2 [.slice lo k k, .slice (some ⟨g2, 0, none⟩) (k + 1) K2] (by go_simp) rfl (fun j u hu => by rcases j with _ | _ | j; simp at hu; subst hu; simp [Addr.add, go_sem]; simp at hu; subst hu; simp [Addr.add, go_sem]; simp at hu) (fun u hu => by simp at hu; rcases hu with rfl | rfl <;> rfl) (by unfold maxLen; omega) (by omega) (by simp; omega) ?_; intro v5 w5 ow5 gr5 _ at5; obtain ⟨a5, k5, rfl, h5⟩ := own_lenB ow5; have c5 : w5.cell? ⟨bb, 0, none⟩ = some (.slice ao l.length cap) := (row_grownU (bo3.alloc _) (ow3.alloc _) gr5 (by decide)).cell (i := 0) (by omega); have f5 := (row_grownU (bo3.alloc _) (ow3.alloc _) gr5 (by decide)).frozen 0)
              go_end0
              have hpp : l.length = p2 := by omega
              have bo5 := row_grownU (bo3.alloc (.cells #[.slice lo k k, .slice (some ⟨g2, 0, none⟩) (k + 1) K2] 33)) (ow3.alloc _) gr5 (by decide)
              have bt : But bb w5 (w5.setCell ⟨bb, 0, none⟩ (.slice a5 (p2 + 2) k5)) := (But.refl _ _).set _
              have ow6 := own_butU ow5 bt bo5 (by decide)
              have fb6 := ((fb3.below (bl_alloc (Below.refl _ _) (.cells #[.slice lo k k, .slice (some ⟨g2, 0, none⟩) (k + 1) K2] 33))).grown gr5 (fun r e => .inl (.inr (.inr e)))).but bt (.inl (.inl rfl))
              have rkeep : ∀ (G n : Nat) (f : Nat → Value), w3.rowIs G 47 n f → (w5.setCell ⟨bb, 0, none⟩ (.slice a5 (p2 + 2) k5)).rowIs G 47 n f := fun G n f r => by
                have r5 := row_grownU (r.alloc (.cells #[.slice lo k k, .slice (some ⟨g2, 0, none⟩) (k + 1) K2] 33)) (ow3.alloc _) gr5 (by decide)
                exact bt.row (bk_ne bo5 r5) r5
              refine ⟨rfl, .slice a5 (p2 + 2) k5, y, l ++ [⟨lo, k, k⟩, ⟨some ⟨g2, 0, none⟩, k + 1, K2⟩], p + 1, by simp; omega, Nat.le_refl _, ⟨bk_set0 bo5 _, ?_, fun i hi => ?_⟩, fb6⟩
              · have e1 : (l ++ [(⟨lo, k, k⟩ : Br), ⟨some ⟨g2, 0, none⟩, k + 1, K2⟩]).length = l.length + 2 := by simp
                have e2 : lcsU (l ++ [(⟨lo, k, k⟩ : Br), ⟨some ⟨g2, 0, none⟩, k + 1, K2⟩]) = lcsU l ++ [.slice lo k k, .slice (some ⟨g2, 0, none⟩) (k + 1) K2] := by simp [lcsU]
                rw [e1, e2, hpp]
                rw [hpp] at ow6
                exact ow6
              · by_cases h1 : i < l.length
                · rw [List.getElem_append_left h1]
                  exact TK.old HBK.out hlo fb6 i h1
                · have hi' : i < l.length + 2 := by simpa using hi
                  by_cases h2 : i = l.length
                  · subst h2
                    rw [List.getElem_append_right (Nat.le_refl _)]
                    simp only [Nat.sub_self, List.getElem_cons_zero]
                    refine ⟨?_, by show k ≤ _; omega⟩
                    rcases lr3 with ⟨_, e⟩ | ⟨G, e1, _, row⟩
                    · exact .inl e
                    · exact .inr ⟨G, k, _, e1, rkeep _ _ _ row, Nat.le_refl _, fun j _ => by rw [← hmk]; congr 2; omega, fun z => z.2 e1⟩
                  · obtain rfl : i = l.length + 1 := by omega
                    rw [List.getElem_append_right (by omega)]
                    simp only [Nat.add_sub_cancel_left, List.getElem_cons_succ, List.getElem_cons_zero]
                    refine ⟨.inr ⟨g2, K, f, rfl, rkeep _ _ _ rg2, hK, fun j hj => ?_, fun z => by have := hS g2 z.1; omega⟩, by show k + 1 ≤ _; omega⟩
                    have e := hf j hj
                    have e3 : (List.replicate k (Value.int .u64 ((mk : Nat) : Int)) ++ [.int .u64 ((mk : Nat) : Int)])[j]? = some (.int .u64 ((mk : Nat) : Int)) := by
                      by_cases hjk : j < k
                      · rw [List.getElem?_append_left (by simpa using hjk), List.getElem?_replicate, if_pos hjk]
                      · have : j < k + 1 := hj
                        obtain rfl : j = k := by omega
                        rw [List.getElem?_append_right (by simp)]
                        simp
                    rw [e3] at e
                    injection e with e
                    rw [e, ← hmk]
                    congr 2
                    omega
end Go.Proofs.Ytmbhapegdbajpaa
/- PoolFresh: copied; two answers appended. -/
namespace Go.Proofs.Ytmbhapegdbajpaa
open Go.RowKit Go.Shelf

def clB (N m : Nat) : List Value := (List.range m).map (wf N)
theorem clB_len (N m : Nat) : (clB N m).length = m := by simp [clB]
theorem clB_at {N m j : Nat} {u : Value} (h : (clB N m)[j]? = some u) : j < m ∧ u = wf N j := by
  have hj : j < m := by
    rcases Nat.lt_or_ge j m with h' | h'
    · exact h'
    · rw [List.getElem?_eq_none (by rw [clB_len]; exact h')] at h; cases h
  refine ⟨hj, ?_⟩
  rw [clB, List.getElem?_map, List.getElem?_range hj] at h
  simpa using h.symm
/-- 'append' of words that lie anywhere to nothing. -/
theorem app_nilB {ops : Array Oper} {rest : List Oper} {o : Oper} {a : Act} {Q : Exit → Act → World → Prop} {w : World} (hgd : o.guard = none) (s x : Operand)
    (ho : o.op = .call { callee := .builtin .append, args := #[s, x], argTypes := #[33, 33] }) (hs : a.eval s = .slice none 0 0)
    (ao : Option Addr) (m N : Nat) (hx : a.eval x = .slice ao m m) (hr : Wr w ao m N) (hM : m ≤ 1073741824)
    (h : ∀ v' w', w'.ownsRow w.heap.size 47 1 v' m (clB N m) → Below w.heap.size w w' → wpList Try.prog ops Q rest (a.put o.dst v') w') : wpList Try.prog ops Q (o :: rest) a w := by
  obtain ⟨i0, hi, hz0, hz1, hz2⟩ := info_parts info_u64
  cases ao with
  | none =>
    have h0 : m = 0 := by
      rcases Nat.eq_zero_or_pos m with h0 | h0
      · exact h0
      · obtain ⟨g, o', e, _⟩ := hr.2 0 h0
        cases e
    subst h0
    exact wpList_append_own_none hgd s x _ ho w.heap.size 47 i0 1 und_u64s hi (.slice none 0 0) 0 [] hs (World.ownsRow_nil _ _ _ _) hx (h _ _ (World.ownsRow_nil _ _ _ _) (Below.refl _ _))
  | some ad =>
    refine wpList_append_own w hgd s x _ ho w.heap.size 47 i0 (.int .u64 0) 1 8 und_u64s hi hz0 hz1 hz2 rfl (by decide) (.slice none 0 0) 0 [] hs (World.ownsRow_nil _ _ _ _) ad m m (clB N m) hx (by rw [clB_len]; omega)
      (fun j u hu => ?_) (fun u hu => ?_) (by unfold maxLen; omega) (by omega) (Nat.le_refl _) ?_
    · obtain ⟨hj, rfl⟩ := clB_at hu
      obtain ⟨g, o', e, c⟩ := hr.2 j hj
      obtain rfl : ad = ⟨g, o', none⟩ := Option.some.inj e
      by_cases h0 : j = 0
      · subst h0; exact c
      · simp [Addr.add, h0, c]
    · obtain ⟨j, hj, rfl⟩ := List.mem_map.1 hu
      rfl
    · intro v' w' h1 h2 _
      rw [Nat.zero_add, List.nil_append] at h1
      exact h v' w' h1 ((Below.refl _ _).grown h2 (Nat.le_refl _) (fun _ e => by cases e))
/-- A copy: nothing, or new memory that holds the words. -/
def Cp (w W : World) (bo : Option Addr) (m N : Nat) : Prop := (bo = none ∧ m = 0) ∨ ∃ G K f, bo = some ⟨G, 0, none⟩ ∧ w.heap.size ≤ G ∧ W.rowIs G 47 K f ∧ m ≤ K ∧ ∀ k, k < m → f k = wf N k
theorem Cp.of {w W : World} {v : Value} {m N : Nat} (h : W.ownsRow w.heap.size 47 1 v m (clB N m)) : ∃ bo K, v = .slice bo m K ∧ Cp w W bo m N := by
  rcases h.2 with ⟨rfl, h0⟩ | ⟨g, cap, cur, rfl, hg, _⟩
  · exact ⟨none, 0, by rw [h0], .inl ⟨rfl, h0⟩⟩
  · obtain ⟨K, f, row, hK, hf⟩ := own_rowB h
    refine ⟨_, cap, rfl, .inr ⟨g, K, f, rfl, hg, row, hK, fun k hk => ?_⟩⟩
    have e := hf k hk
    rw [clB, List.getElem?_map, List.getElem?_range hk] at e
    simpa using e
set_option maxHeartbeats 3200000 in
set_option maxRecDepth 100000 in
theorem copied_any (hq v c e : Int) (ao : Option Addr) (m N : Nat) (w : World) (hm : m ≤ 1073741824) (rd : Wr w ao m N) :
    Calls Try.prog 9 #[tov hq v c ao m m e] w fun y w' => ∃ bo K, y = .returned (tov hq v c bo m K e) ∧ Cp w w' bo m N ∧ Below w.heap.size w w' := by
  have RD := hid1 rd
  clear rd
  go_enter Try.func9, Try.ntmps9
  go_upto_region 1 with fail
  refine gen_world (fun X => X.rowIs w.heap.size 41 5 (tof hq v c ao m m e) ∧ X.rowIs (w.heap.size + 1) 41 5 (tof 0 0 0 none 0 0 0) ∧ Below w.heap.size w X) ⟨(to_new w hq v c ao m m e).alloc _, by have := to_new (w.alloc (too hq v c ao m m e)) 0 0 0 none 0 0 0; rw [World.size_alloc] at this; exact this, bl_alloc (bl_alloc (Below.refl _ _) _) _⟩ ?_
  rintro X ⟨b0, b1, BX⟩
  obtain ⟨c0, c1, c2, c3, c4⟩ := to_cells b0
  have f3 := b0.frozen 3
  have HB0 := hid1 b0
  have HB1 := hid1 b1
  have RX := hid1 (RD.out.below BX)
  have zX := b1.lt
  clear b0 b1
  go_wp2_with ((at_builtin; refine app_nilB rfl _ _ rfl (by go_simp) ao m N (by go_simp) RX.out hm ?_; intro v' X2 ow2 B2; obtain ⟨bo, K, rfl, hcp⟩ := Cp.of ow2; have d0 := keepc B2 c0; have d1 := keepc B2 c1; have d2 := keepc B2 c2; have d3 := keepc B2 c3; have d4 := keepc B2 c4; have g3 := (keepr B2 HB0.out).frozen 3; have hx2 := keepr B2 HB1.out; have zz2 := (keepr B2 HB0.out).lt; obtain ⟨e0, e1, e2, e3, e4⟩ := to_cells hx2; obtain ⟨k0, k1, k2, k3, k4⟩ := to_free hx2; have HX2 := hid1 hx2; clear hx2))
  have bt : But w.heap.size X2 (X2.setCell ⟨w.heap.size, 3, none⟩ (.slice bo m K)) := (But.refl _ _).set _
  have r1 := bt.row (by omega) HX2.out
  have u := to_set r1 hq v c bo m K e
  obtain ⟨u0, u1, u2, u3, u4⟩ := to_cells u
  have bt2 : But (w.heap.size + 1) (X2.setCell ⟨w.heap.size, 3, none⟩ (.slice bo m K)) (((((((X2.setCell ⟨w.heap.size, 3, none⟩ (.slice bo m K)).setCell ⟨w.heap.size + 1, 0, none⟩ (.int .i64 hq)).setCell ⟨w.heap.size + 1, 1, none⟩ (.int .i64 v)).setCell ⟨w.heap.size + 1, 2, none⟩ (.int .i64 c)).setCell ⟨w.heap.size + 1, 3, none⟩ (.slice bo m K)).setCell ⟨w.heap.size + 1, 4, none⟩ (.int .i64 e))) := (((((But.refl _ _).set _).set _).set _).set _).set _
  have B3 := bl_step BX B2
  refine bodyPost_ret (v := tov hq v c bo m K e) (by simp [results, Try.results9, go_sem, u0, u1, u2, u3, u4]) rfl ⟨bo, K, rfl, ?_, bt2.below (by omega) (by have := bt.size; have := B3.size; omega) (bt.below (Nat.le_refl _) B3.size B3)⟩
  rcases hcp with hcp | ⟨G, K', f, rfl, hG, row, hK, hf⟩
  · exact .inl hcp
  · have := BX.size
    exact .inr ⟨G, K', f, rfl, by omega, bt2.row (by omega) (bt.row (by omega) row), hK, hf⟩
end Go.Proofs.Ytmbhapegdbajpaa
/- PoolFresh: all that is kept. -/
namespace Go.Proofs.Ytmbhapegdbajpaa
open Go.RowKit Go.Shelf

/-- An answer that is kept, and its copy. -/
structure Tc where
  h : Int
  v : Int
  c : Int
  e : Int
  m : Nat
  N : Nat
  ao : Option Addr
  bo : Option Addr
  bc : Nat
def faT (x : Tc) : Value := .slice x.ao x.m x.m
def fbT (x : Tc) : Value := .slice x.bo x.m x.bc
def tcg (f : Tc → Value) (l : List Tc) : List Value := l.flatMap fun x => [.int .i64 x.h, .int .i64 x.v, .int .i64 x.c, f x, .int .i64 x.e]
theorem tcg_at (f : Tc → Value) (l : List Tc) : ∀ i (h : i < l.length), (tcg f l)[i * 5]? = some (.int .i64 l[i].h) ∧ (tcg f l)[i * 5 + 1]? = some (.int .i64 l[i].v) ∧ (tcg f l)[i * 5 + 2]? = some (.int .i64 l[i].c) ∧ (tcg f l)[i * 5 + 3]? = some (f l[i]) ∧ (tcg f l)[i * 5 + 4]? = some (.int .i64 l[i].e) := by
  induction l with
  | nil => intro i h; simp at h
  | cons x l ih =>
    intro i h
    have e : tcg f (x :: l) = [.int .i64 x.h, .int .i64 x.v, .int .i64 x.c, f x, .int .i64 x.e] ++ tcg f l := by simp [tcg]
    rcases i with _ | i
    · rw [e]; exact ⟨rfl, rfl, rfl, rfl, rfl⟩
    · obtain ⟨h0, h1, h2, h3, h4⟩ := ih i (by simp at h; omega)
      rw [e]
      have sh : ∀ k : Nat, ([.int .i64 x.h, .int .i64 x.v, .int .i64 x.c, f x, .int .i64 x.e] ++ tcg f l)[(i + 1) * 5 + k]? = (tcg f l)[i * 5 + k]? := fun k => by
        rw [List.getElem?_append_right (by simp; omega)]
        congr 1
        simp; omega
      have s0 := sh 0
      rw [Nat.add_zero, Nat.add_zero] at s0
      rw [s0, sh 1, sh 2, sh 3, sh 4]
      exact ⟨h0, h1, h2, h3, h4⟩
theorem tcg_two (f : Tc → Value) (l : List Tc) (x y : Tc) : tcg f (l ++ [x, y]) = tcg f l ++ [.int .i64 x.h, .int .i64 x.v, .int .i64 x.c, f x, .int .i64 x.e, .int .i64 y.h, .int .i64 y.v, .int .i64 y.c, f y, .int .i64 y.e] := by
  unfold tcg; rw [List.flatMap_append]; simp
/-- Words of an answer that is kept; of its copy. -/
def As (B : Nat) (W : World) (S : Nat → Prop) (ao : Option Addr) (m N : Nat) : Prop := (ao = none ∧ m = 0 ∧ N = 0) ∨ ∃ G, ao = some ⟨G, 0, none⟩ ∧ W.rowIs G 47 m (wf N) ∧ N < 2 ^ (64 * m) ∧ S G ∧ B ≤ G
def Ac (W : World) (S : Nat → Prop) (bo : Option Addr) (m N : Nat) : Prop := (bo = none ∧ m = 0) ∨ ∃ G K f, bo = some ⟨G, 0, none⟩ ∧ W.rowIs G 47 K f ∧ m ≤ K ∧ (∀ k, k < m → f k = wf N k) ∧ S G
theorem As.wr {B : Nat} {W : World} {S : Nat → Prop} {ao : Option Addr} {m N : Nat} (h : As B W S ao m N) : Wr W ao m N := by
  rcases h with ⟨rfl, rfl, rfl⟩ | ⟨G, rfl, row, hX, _⟩
  · exact Wr.nil _
  · exact Wr.row row hX
theorem As.lt {B : Nat} {W : World} {S : Nat → Prop} {ao : Option Addr} {m N : Nat} (h : As B W S ao m N) : N < 2 ^ (64 * m) := h.wr.1
theorem Ac.wr {W : World} {S : Nat → Prop} {bo : Option Addr} {m N : Nat} (h : Ac W S bo m N) (hN : N < 2 ^ (64 * m)) : Wr W bo m N := by
  rcases h with ⟨rfl, rfl⟩ | ⟨G, K, f, rfl, row, hK, hf, _⟩
  · exact ⟨hN, fun k hk => absurd hk (by omega)⟩
  · exact ⟨hN, fun k hk => ⟨G, 0, rfl, by rw [Nat.zero_add]; exact (row.cell (by omega)).trans (by rw [hf k hk])⟩⟩
theorem As.fb {B : Nat} {X S : Nat → Prop} {W W' : World} {ao : Option Addr} {m N : Nat} (h : As B W S ao m N) (fb : FB X W W') (hX : ∀ G, ao = some ⟨G, 0, none⟩ → ¬ X G) : As B W' S ao m N := by
  rcases h with h | ⟨G, e, row, r⟩
  · exact .inl h
  · exact .inr ⟨G, e, fb.row row (hX G e), r⟩
theorem Ac.fb {X S : Nat → Prop} {W W' : World} {bo : Option Addr} {m N : Nat} (h : Ac W S bo m N) (fb : FB X W W') (hX : ∀ G, bo = some ⟨G, 0, none⟩ → ¬ X G) : Ac W' S bo m N := by
  rcases h with h | ⟨G, K, f, e, row, r⟩
  · exact .inl h
  · exact .inr ⟨G, K, f, e, fb.row row (hX G e), r⟩
theorem As.set {B : Nat} {S T : Nat → Prop} {W : World} {ao : Option Addr} {m N : Nat} (h : As B W S ao m N) (hT : ∀ G, ao = some ⟨G, 0, none⟩ → S G → T G) : As B W T ao m N := by
  rcases h with h | ⟨G, e, row, h1, h2, h3⟩
  · exact .inl h
  · exact .inr ⟨G, e, row, h1, hT G e h2, h3⟩
theorem Ac.set {S T : Nat → Prop} {W : World} {bo : Option Addr} {m N : Nat} (h : Ac W S bo m N) (hT : ∀ G, bo = some ⟨G, 0, none⟩ → S G → T G) : Ac W T bo m N := by
  rcases h with h | ⟨G, K, f, e, row, h1, h2, h3⟩
  · exact .inl h
  · exact .inr ⟨G, K, f, e, row, h1, h2, hT G e h3⟩
theorem Bk.sub {W : World} {S T : Nat → Prop} {bb base : Nat} {v : Value} {z : Int} {l : List Br} (h : Bk W S bb base v z l) (hT : ∀ g, g < W.heap.size → T g → S g) : Bk W T bb base v z l :=
  ⟨h.bo, h.ow, fun i hi => ⟨by
    rcases (h.ls i hi).1 with e | ⟨g, K, f, e1, row, e3, e4, e5⟩
    · exact .inl e
    · exact .inr ⟨g, K, f, e1, row, e3, e4, fun z => e5 (hT g row.lt z)⟩, (h.ls i hi).2⟩⟩
theorem own_fb {w w' : World} {X : Nat → Prop} {base : Nat} {e : TypeId} {size n : Nat} {v : Value} {xs : List Value} (h : w.ownsRow base e size v n xs) (fb : FB X w w') (hX : ∀ k, v.ownBlock = some k → ¬ X k) : w'.ownsRow base e size v n xs := by
  rcases h.2 with ⟨e1, e2⟩ | ⟨g, cap, cur, e1, hg, hc, r⟩
  · exact ⟨h.1, .inl ⟨e1, e2⟩⟩
  · refine ⟨h.1, .inr ⟨g, cap, cur, e1, hg, ?_, r⟩⟩
    have hlt : g < w.heap.size := by
      rcases Nat.lt_or_ge g w.heap.size with h' | h'
      · exact h'
      · rw [Array.getElem?_eq_none h'] at hc; cases hc
    rw [fb.block g hlt (hX g (by rw [e1]; rfl))]
    exact hc
/-- All that PoolFresh keeps: the Book, both lists of answers, their words. -/
structure Pf (w W : World) (S : Nat → Prop) (bb base : Nat) (va vb vB : Value) (z : Int) (l : List Br) (La Lb : List Tc) : Prop where
  bk : Bk W S bb base vB z l
  a : W.ownsRow base 41 5 va La.length (tcg faT La)
  b : W.ownsRow base 41 5 vb Lb.length (tcg fbT Lb)
  ne : va.ownBlock = none ∨ va.ownBlock ≠ vb.ownBlock
  an : ∀ x ∈ La, As base W S x.ao x.m x.N ∧ x.m ≤ 1073741824
  bn : ∀ x ∈ Lb, Ac W S x.bo x.m x.N
  ds : ∀ i j (hi : i < La.length) (hj : j < La.length), i < j → ∀ G, La[i].ao = some ⟨G, 0, none⟩ → La[j].ao ≠ some ⟨G, 0, none⟩
  bel : Below w.heap.size w W
  hw : w.heap.size ≤ base
  hb : base ≤ bb ∧ base ≤ W.heap.size
theorem FB.of_below {W W' : World} (h : Below W.heap.size W W') : FB (fun _ => False) W W' := ⟨h.os, h.tape, h.output, h.size, fun k hk _ => h.block k hk⟩
theorem FB.of_but {g : Nat} {W W' : World} (h : But g W W') : FB (fun k => k = g) W W' := ⟨h.os, h.tape, h.output, h.size, fun k hk hn => h.block k hk hn⟩
theorem FB.to_below {X : Nat → Prop} {w W W' : World} (h : FB X W W') (h0 : Below w.heap.size w W) (hX : ∀ k, X k → w.heap.size ≤ k) : Below w.heap.size w W' :=
  ⟨h.os.trans h0.os, h.tape.trans h0.tape, h.output.trans h0.output, Nat.le_trans h0.size h.size, fun k hk => (h.block k (Nat.lt_of_lt_of_le hk h0.size) (fun x => by have := hX k x; omega)).trans (h0.block k hk)⟩
/-- Nothing has turned but lists of words that are none of these. -/
theorem Pf.fb {w W W' : World} {S X : Nat → Prop} {bb base : Nat} {va vb vB : Value} {z : Int} {l : List Br} {La Lb : List Tc} (h : Pf w W S bb base va vb vB z l La Lb) (fb : FB X W W')
    (hX : ∀ k, X k → S k ∧ w.heap.size ≤ k ∧ (∃ n f, W.rowIs k 47 n f) ∧ (∀ x ∈ La, x.ao ≠ some ⟨k, 0, none⟩) ∧ ∀ x ∈ Lb, x.bo ≠ some ⟨k, 0, none⟩) : Pf w W' S bb base va vb vB z l La Lb := by
  have ty : ∀ {T : TypeId} {size n : Nat} {v : Value} {xs : List Value}, W.ownsRow base T size v n xs → T ≠ 47 → ∀ k, v.ownBlock = some k → ¬ X k := fun ho ht k e x => by
    obtain ⟨_, _, ⟨n, f, r⟩, _⟩ := hX k x
    exact own_row_neU ho r ht e
  refine ⟨⟨fb.row h.bk.bo (fun x => ?_), own_fb h.bk.ow fb (ty h.bk.ow (by decide)), fun i hi => ⟨?_, (h.bk.ls i hi).2⟩⟩, own_fb h.a fb (ty h.a (by decide)), own_fb h.b fb (ty h.b (by decide)), h.ne, fun x hx => ⟨(h.an x hx).1.fb fb (fun G e y => (hX G y).2.2.2.1 x hx e), (h.an x hx).2⟩, fun x hx => (h.bn x hx).fb fb (fun G e y => (hX G y).2.2.2.2 x hx e), h.ds, fb.to_below h.bel (fun k x => (hX k x).2.1), h.hw, h.hb.1, Nat.le_trans h.hb.2 fb.size⟩
  · obtain ⟨_, _, ⟨n, f, r⟩, _⟩ := hX bb x
    exact bk_ne h.bk.bo r rfl
  · rcases (h.bk.ls i hi).1 with e | ⟨g, K, f, e1, row, e3, e4, e5⟩
    · exact .inl e
    · exact .inr ⟨g, K, f, e1, fb.row row (fun x => e5 (hX g x).1), e3, e4, e5⟩
theorem Pf.below {w W W' : World} {S : Nat → Prop} {bb base : Nat} {va vb vB : Value} {z : Int} {l : List Br} {La Lb : List Tc} (h : Pf w W S bb base va vb vB z l La Lb) (hb : Below W.heap.size W W') : Pf w W' S bb base va vb vB z l La Lb :=
  h.fb (FB.of_below hb) (fun _ x => x.elim)
theorem Pf.more {w W : World} {S : Nat → Prop} {bb base : Nat} {va vb vB : Value} {z : Int} {l : List Br} {La Lb : List Tc} (h : Pf w W S bb base va vb vB z l La Lb) : Pf w W (fun b => S b ∨ W.heap.size ≤ b) bb base va vb vB z l La Lb :=
  ⟨h.bk.sub (fun g hg x => by rcases x with x | x; exact x; omega), h.a, h.b, h.ne, fun x hx => ⟨(h.an x hx).1.set fun _ _ y => .inl y, (h.an x hx).2⟩, fun x hx => (h.bn x hx).set fun _ _ y => .inl y, h.ds, h.bel, h.hw, h.hb⟩
theorem tell_row {W : World} {k n m : Nat} {t u : TypeId} {f g : Nat → Value} (a : W.rowIs k t n f) (b : W.rowIs k u m g) : t = u := by
  obtain ⟨c, hc, _⟩ := a
  obtain ⟨c', hc', _⟩ := b
  rw [hc] at hc'
  injection hc' with hc'
  injection hc' with _ h2 _
theorem own_tell {w : World} {base base' : Nat} {e t : TypeId} {size size' n n' : Nat} {v v' : Value} {xs xs' : List Value} (h : w.ownsRow base e size v n xs) (h' : w.ownsRow base' t size' v' n' xs') (ht : e ≠ t) (k : Nat) (e1 : v.ownBlock = some k) (e2 : v'.ownBlock = some k) : False := by
  rcases h.2 with ⟨rfl, _⟩ | ⟨g, cap, cur, rfl, _, hg, _⟩
  · simp [Value.ownBlock] at e1
  · rcases h'.2 with ⟨rfl, _⟩ | ⟨g', cap', cur', rfl, _, hg', _⟩
    · simp [Value.ownBlock] at e2
    · simp [Value.ownBlock] at e1 e2
      subst e1 e2
      rw [hg] at hg'
      injection hg' with hg'
      injection hg' with _ h2 _
      exact ht h2
/-- The Book takes an answer's list. -/
theorem take_pf {w W : World} {S : Nat → Prop} {bb base : Nat} {va vb vB : Value} {z : Int} {l : List Br} {La Lb : List Tc} (h : Pf w W S bb base va vb vB z l La Lb) (p : Nat) (hp : l.length = 2 * p) (hpl : p ≤ 268435456) (lo : Option Addr) (m : Nat) (hm : m ≤ 1073741824)
    (lw : (lo = none ∧ m = 0) ∨ ∃ G f, lo = some ⟨G, 0, none⟩ ∧ W.rowIs G 47 m f ∧ S G ∧ w.heap.size ≤ G) (hn : ∀ G, lo = some ⟨G, 0, none⟩ → (∀ x ∈ La, x.ao ≠ some ⟨G, 0, none⟩) ∧ ∀ x ∈ Lb, x.bo ≠ some ⟨G, 0, none⟩) :
    Calls Try.prog 10 #[.pointer (some ⟨bb, 0, none⟩), .slice lo m m] W fun e W' => e = .returned (.tuple #[]) ∧ ∃ vB' z' l' p', l'.length = 2 * p' ∧ p' ≤ p + 1 ∧ Pf w W' (fun b => (S b ∧ b < W.heap.size) ∧ lo ≠ some ⟨b, 0, none⟩) bb base va vb vB' z' l' La Lb ∧ FB (fun k => k = bb ∨ lo = some ⟨k, 0, none⟩ ∨ vB.ownBlock = some k) W W' := by
  refine (take_any (fun b => S b ∧ b < W.heap.size) bb base vB z l p hp lo m W hpl hm (fun b x => x.2) h.hb.2 (h.bk.sub fun g _ x => x.1) ?_).mono ?_
  · rcases lw with e | ⟨G, f, e, row, s, _⟩
    · exact .inl e
    · exact .inr ⟨G, f, e, row, s, row.lt⟩
  rintro e W' ⟨rfl, vB', z', l', p', e1, e2, bk', fb⟩
  refine ⟨rfl, vB', z', l', p', e1, e2, ⟨bk', own_fb h.a fb ?_, own_fb h.b fb ?_, h.ne, fun x hx => ⟨?_, (h.an x hx).2⟩, fun x hx => ?_, h.ds, fb.to_below h.bel ?_, h.hw, h.hb.1, Nat.le_trans h.hb.2 fb.size⟩, fb⟩
  · rintro k ek (rfl | e | e)
    · exact own_row_neU h.a h.bk.bo (by decide) ek
    · rcases lw with ⟨e0, _⟩ | ⟨G, f, e0, row, _⟩
      · rw [e0] at e; cases e
      · rw [e0] at e; cases e
        exact own_row_neU h.a row (by decide) ek
    · exact own_tell h.a h.bk.ow (by decide) k ek e
  · rintro k ek (rfl | e | e)
    · exact own_row_neU h.b h.bk.bo (by decide) ek
    · rcases lw with ⟨e0, _⟩ | ⟨G, f, e0, row, _⟩
      · rw [e0] at e; cases e
      · rw [e0] at e; cases e
        exact own_row_neU h.b row (by decide) ek
    · exact own_tell h.b h.bk.ow (by decide) k ek e
  · rcases (h.an x hx).1 with e | ⟨G, eG, row, hN, s, hB⟩
    · exact .inl e
    · refine .inr ⟨G, eG, fb.row row ?_, hN, ⟨⟨s, row.lt⟩, fun e => (hn G e).1 x hx eG⟩, hB⟩
      rintro (e | e | e)
      · exact bk_ne h.bk.bo row e
      · exact (hn G e).1 x hx eG
      · exact own_row_neU h.bk.ow row (by decide) e
  · rcases h.bn x hx with e | ⟨G, K, f, eG, row, h1, h2, s⟩
    · exact .inl e
    · refine .inr ⟨G, K, f, eG, fb.row row ?_, h1, h2, ⟨s, row.lt⟩, fun e => (hn G e).2 x hx eG⟩
      rintro (e | e | e)
      · exact bk_ne h.bk.bo row e
      · exact (hn G e).2 x hx eG
      · exact own_row_neU h.bk.ow row (by decide) e
  · have h1 := h.hw
    have h2 := h.hb.1
    rintro k (rfl | e | e)
    · omega
    · rcases lw with ⟨e0, _⟩ | ⟨G, f, e0, _, _, hG⟩
      · rw [e0] at e; cases e
      · rw [e0] at e; cases e; exact hG
    · have := (h.bk.ow.lt k e).1
      omega
end Go.Proofs.Ytmbhapegdbajpaa
/- PoolFresh: two answers more. -/
namespace Go.Proofs.Ytmbhapegdbajpaa
open Go.RowKit Go.Shelf

/-- Two answers in new memory. -/
abbrev two (f : Tc → Value) (x y : Tc) : Obj := .cells #[.int .i64 x.h, .int .i64 x.v, .int .i64 x.c, f x, .int .i64 x.e, .int .i64 y.h, .int .i64 y.v, .int .i64 y.c, f y, .int .i64 y.e] 41
def tenL (f : Tc → Value) (x y : Tc) : List Value := [.int .i64 x.h, .int .i64 x.v, .int .i64 x.c, f x, .int .i64 x.e, .int .i64 y.h, .int .i64 y.v, .int .i64 y.c, f y, .int .i64 y.e]
theorem two_cells (f : Tc → Value) (x y : Tc) (W : World) (j : Nat) (u : Value) (h : (tenL f x y)[j]? = some u) : (W.alloc (two f x y)).cell? ((⟨W.heap.size, 0, none⟩ : Addr).add j) = some u := by
  unfold tenL at h
  rcases j with _ | _ | _ | _ | _ | _ | _ | _ | _ | _ | j
  all_goals first | (simp at h; done) | (simp at h; subst h; simp [Addr.add, go_sem]; done)
theorem step_appU {ops : Array Oper} {o : Oper} {a : Act} {w : World} {K : Act → World → Prop} {Q : Exit → Act → World → Prop} {E : Prop}
    (hg : o.guard = none) (s x : Operand) (hop : o.op = Op.call { callee := Callee.builtin Builtin.append, args := #[s, x], argTypes := #[30, 30] })
    (base : Nat) (v : Value) (n : Nat) (xs : List Value) (hs : a.eval s = v) (hown : w.ownsRow base 41 5 v n xs)
    (ad : Addr) (news : List Value) (hx : a.eval x = .slice (some ad) 2 2) (hl : news.length = 10) (hnews : ∀ j u, news[j]? = some u → w.cell? (ad.add j) = some u) (h1 : ∀ u ∈ news, u.oneCell' = true)
    (hn : n ≤ 1099511627776) (hbase : base ≤ w.heap.size)
    (hK : ∀ v' w', w'.ownsRow base 41 5 v' (n + 2) (xs ++ news) → w.grownBy w' v.ownBlock → (v'.ownBlock = v.ownBlock ∨ v'.ownBlock = some w.heap.size) → K (a.put o.dst v') w') :
    if Region.wanted o (yielded ops a.tmps) = true then Oper.wp Try.prog o a w K Q else E := by
  have hw : Region.wanted o (yielded ops a.tmps) = true := by simp [Region.wanted, hg]
  obtain ⟨i0, hi, hz0, hz1, hz2⟩ := info_parts info_told
  rw [if_pos hw]
  obtain ⟨v', w', hr, h2, h3, h4, h5⟩ := run_append_own_at (P := Try.prog) w base 30 o.type 41 i0 _ 5 56 und_tolds hi hz0 hz1 hz2 rfl (by decide) v n xs hown ad 2 2 news (by omega) hnews h1 (by unfold maxLen; omega) (by omega) hbase
  unfold Oper.wp execOp
  simp only [hop, resolve, invoke, builtin, Sem.run_bind, Sem.run_pure, Result.andThen_ok, List.map_toArray, List.map_cons, List.map_nil, hs, hx, hr]
  exact hK _ _ h2 h3 h5
theorem app_two {ops : Array Oper} {rest : List Oper} {o : Oper} {a : Act} {Q : Exit → Act → World → Prop} {w : World} (hgd : o.guard = none) (s x : Operand)
    (ho : o.op = .call { callee := .builtin .append, args := #[s, x], argTypes := #[30, 30] }) (base : Nat) (v : Value) (n : Nat) (xs : List Value) (hs : a.eval s = v) (hown : w.ownsRow base 41 5 v n xs)
    (ad : Addr) (news : List Value) (hx : a.eval x = .slice (some ad) 2 2) (hl : news.length = 10) (hnews : ∀ j u, news[j]? = some u → w.cell? (ad.add j) = some u) (h1 : ∀ u ∈ news, u.oneCell' = true) (hM : n ≤ 1099511627776) (hb : base ≤ w.heap.size)
    (hh : ∀ u w', w'.ownsRow base 41 5 u (n + 2) (xs ++ news) → w.grownBy w' v.ownBlock → (u.ownBlock = v.ownBlock ∨ u.ownBlock = some w.heap.size) → wpList Try.prog ops Q rest (a.put o.dst u) w') : wpList Try.prog ops Q (o :: rest) a w := by
  obtain ⟨i0, hi, hz0, hz1, hz2⟩ := info_parts info_told
  refine wpList_append_own_at _ hgd s x _ ho base 41 i0 _ 5 56 und_tolds hi hz0 hz1 hz2 rfl (by decide) v n xs hs hown ad 2 2 news hx (by omega) hnews h1 (by unfold maxLen; omega) (by omega) hb ?_
  intro u w' h1 h2 _ h4
  exact hh u w' h1 h2 h4
/-- The first list has grown. -/
theorem Pf.appA {w W : World} {S : Nat → Prop} {bb base : Nat} {va vb vB : Value} {z : Int} {l : List Br} {La Lb : List Tc} (h : Pf w W S bb base va vb vB z l La Lb) {Y W' : World} (hY : Below W.heap.size W Y) {va' : Value} (x y : Tc) (ow : W'.ownsRow base 41 5 va' (La.length + 2) (tcg faT La ++ tenL faT x y)) (hg : Y.grownBy W' va.ownBlock) (ha : va'.ownBlock = va.ownBlock ∨ ∃ b, va'.ownBlock = some b ∧ W.heap.size ≤ b)
    (hx : As base W S x.ao x.m x.N ∧ x.m ≤ 1073741824) (hy : As base W S y.ao y.m y.N ∧ y.m ≤ 1073741824) (dxy : ∀ G, x.ao = some ⟨G, 0, none⟩ → y.ao ≠ some ⟨G, 0, none⟩) (dx : ∀ G, x.ao = some ⟨G, 0, none⟩ ∨ y.ao = some ⟨G, 0, none⟩ → ∀ q ∈ La, q.ao ≠ some ⟨G, 0, none⟩) :
    Pf w W' S bb base va' vb vB z l (La ++ [x, y]) Lb := by
  have fb : FB (fun k => va.ownBlock = some k) W W' := ((FB.refl _ W).below hY).grown hg (fun r e => .inl e)
  have r64 : ∀ {k n : Nat} {f : Nat → Value}, W.rowIs k 47 n f → ¬ va.ownBlock = some k := fun r e => own_row_neU h.a r (by decide) e
  refine ⟨⟨fb.row h.bk.bo (fun e => own_row_neU h.a h.bk.bo (by decide) e), own_fb h.bk.ow fb (fun k e1 e2 => own_tell h.a h.bk.ow (by decide) k e2 e1), fun i hi => ⟨?_, (h.bk.ls i hi).2⟩⟩, ?_, own_fb h.b fb (fun k e1 e2 => ?_), ?_, fun q hq => ?_, fun q hq => (h.bn q hq).fb fb (fun G e => ?_), ?_, fb.to_below h.bel (fun k e => ?_), h.hw, h.hb.1, Nat.le_trans h.hb.2 fb.size⟩
  · rcases (h.bk.ls i hi).1 with e | ⟨g, K, f, e1, row, e3, e4, e5⟩
    · exact .inl e
    · exact .inr ⟨g, K, f, e1, fb.row row (r64 row), e3, e4, e5⟩
  · rw [List.length_append, tcg_two]; exact ow
  · rcases h.ne with e | e
    · rw [e] at e2; cases e2
    · exact e (e2.trans e1.symm)
  · rcases ha with e | ⟨b, e, hb⟩
    · rw [e]; exact h.ne
    · refine .inr fun e1 => ?_
      rw [e] at e1
      have := (h.b.lt b e1.symm).2
      omega
  · have key : ∀ t : Tc, As base W S t.ao t.m t.N ∧ t.m ≤ 1073741824 → As base W' S t.ao t.m t.N ∧ t.m ≤ 1073741824 := fun t ht => ⟨ht.1.fb fb (fun G e => by
      rcases ht.1 with ⟨e0, _⟩ | ⟨G', e0, row, _⟩
      · rw [e0] at e; cases e
      · rw [e0] at e; cases e; exact r64 row), ht.2⟩
    simp only [List.mem_append, List.mem_cons, List.not_mem_nil, or_false] at hq
    rcases hq with hq | rfl | rfl
    · exact key q (h.an q hq)
    · exact key _ hx
    · exact key _ hy
  · rcases h.bn q hq with ⟨e0, _⟩ | ⟨G', K, f, e0, row, _⟩
    · rw [e0] at e; cases e
    · rw [e0] at e; cases e; exact r64 row
  · intro i j hi hj hij G e1 e2
    simp only [List.length_append, List.length_cons, List.length_nil] at hi hj
    by_cases h1 : j < La.length
    · rw [List.getElem_append_left (by omega)] at e1
      rw [List.getElem_append_left h1] at e2
      exact h.ds i j (by omega) h1 hij G e1 e2
    · rw [List.getElem_append_right (by omega)] at e2
      by_cases h2 : i < La.length
      · rw [List.getElem_append_left h2] at e1
        refine dx G ?_ _ (List.getElem_mem h2) e1
        rcases (show j - La.length = 0 ∨ j - La.length = 1 by omega) with e | e <;> simp only [e] at e2
        · exact .inl e2
        · exact .inr e2
      · rw [List.getElem_append_right (by omega)] at e1
        have e3 : i - La.length = 0 := by omega
        have e4 : j - La.length = 1 := by omega
        simp only [e3] at e1
        simp only [e4] at e2
        exact dxy G e1 e2
  · have := (h.a.lt k e).1
    have := h.hw
    omega
/-- The second list has grown. -/
theorem Pf.appB {w W : World} {S : Nat → Prop} {bb base : Nat} {va vb vB : Value} {z : Int} {l : List Br} {La Lb : List Tc} (h : Pf w W S bb base va vb vB z l La Lb) {Y W' : World} (hY : Below W.heap.size W Y) {vb' : Value} (x y : Tc) (ow : W'.ownsRow base 41 5 vb' (Lb.length + 2) (tcg fbT Lb ++ tenL fbT x y)) (hg : Y.grownBy W' vb.ownBlock) (ha : vb'.ownBlock = vb.ownBlock ∨ ∃ b, vb'.ownBlock = some b ∧ W.heap.size ≤ b)
    (hx : Ac Y S x.bo x.m x.N) (hy : Ac Y S y.bo y.m y.N) :
    Pf w W' S bb base va vb' vB z l La (Lb ++ [x, y]) := by
  have h' := h.below hY
  have fb : FB (fun k => vb.ownBlock = some k) Y W' := (FB.refl _ Y).grown hg (fun r e => .inl e)
  have r64 : ∀ {k n : Nat} {f : Nat → Value}, Y.rowIs k 47 n f → ¬ vb.ownBlock = some k := fun r e => own_row_neU h'.b r (by decide) e
  refine ⟨⟨fb.row h'.bk.bo (fun e => own_row_neU h'.b h'.bk.bo (by decide) e), own_fb h'.bk.ow fb (fun k e1 e2 => own_tell h'.b h'.bk.ow (by decide) k e2 e1), fun i hi => ⟨?_, (h'.bk.ls i hi).2⟩⟩, own_fb h'.a fb (fun k e1 e2 => ?_), ?_, ?_, fun q hq => ⟨(h'.an q hq).1.fb fb (fun G e => ?_), (h'.an q hq).2⟩, fun q hq => ?_, h'.ds, fb.to_below h'.bel (fun k e => ?_), h'.hw, h'.hb.1, Nat.le_trans h'.hb.2 fb.size⟩
  · rcases (h'.bk.ls i hi).1 with e | ⟨g, K, f, e1, row, e3, e4, e5⟩
    · exact .inl e
    · exact .inr ⟨g, K, f, e1, fb.row row (r64 row), e3, e4, e5⟩
  · rcases h'.ne with e | e
    · rw [e] at e1; cases e1
    · exact e (e1.trans e2.symm)
  · rw [List.length_append, tcg_two]; exact ow
  · rcases ha with e | ⟨b, e, hb⟩
    · rw [e]; exact h'.ne
    · rcases e2 : va.ownBlock with _ | k
      · exact .inl rfl
      · refine .inr fun e1 => ?_
        rw [e] at e1
        cases e1
        have := (h.a.lt b e2).2
        omega
  · rcases (h'.an q hq).1 with ⟨e0, _⟩ | ⟨G', e0, row, _⟩
    · rw [e0] at e; cases e
    · rw [e0] at e; cases e; exact r64 row
  · have key : ∀ t : Tc, Ac Y S t.bo t.m t.N → Ac W' S t.bo t.m t.N := fun t ht => ht.fb fb (fun G e => by
      rcases ht with ⟨e0, _⟩ | ⟨G', K, f, e0, row, _⟩
      · rw [e0] at e; cases e
      · rw [e0] at e; cases e; exact r64 row)
    simp only [List.mem_append, List.mem_cons, List.not_mem_nil, or_false] at hq
    rcases hq with hq | rfl | rfl
    · exact key q (h'.bn q hq)
    · exact key _ hx
    · exact key _ hy
  · have := (h'.b.lt k e).1
    have := h'.hw
    omega
end Go.Proofs.Ytmbhapegdbajpaa
