/- CHUNKS: size, Write. -/
import Derived.Test.YtbpglkhgggokcaaDoorCW2
namespace Go.Proofs.YtbpglkhgggokcaaDoor
open Go.RowKit

/-- Chunks lie in memory. -/
def Cs (W : World) (lo : Option Addr) (cs : List Ck) : Prop := ∀ (j : Nat) (c : Ck), cs[j]? = some c → ∃ (gl ol : Nat) (ao : Option Addr) (cap : Nat), lo = some ⟨gl, ol, none⟩ ∧ W.cell? ⟨gl, ol + j * 2, none⟩ = some (.int .u32 (c.1 : Int)) ∧ W.cell? ⟨gl, ol + j * 2 + 1, none⟩ = some (.slice ao c.2.length cap) ∧ By W ao c.2 ∧ c.1 < 4294967296 ∧ c.2.length ≤ 281474976710656
theorem Cs.keep {W X : World} {lo : Option Addr} {cs : List Ck} (h : Cs W lo cs) (hb : Below W.heap.size W X) : Cs X lo cs := fun j c hj => by
  obtain ⟨gl, ol, ao, cap, e, c1, c2, b, r⟩ := h j c hj
  exact ⟨gl, ol, ao, cap, e, keepc hb c1, keepc hb c2, b.keep hb, r⟩
theorem Cs.ok {W : World} {lo : Option Addr} {cs : List Ck} (h : Cs W lo cs) : ∀ c ∈ cs, c.Ok := fun c hc => by
  obtain ⟨j, hj⟩ := List.getElem?_of_mem hc
  obtain ⟨_, _, _, _, _, _, _, b, r, _⟩ := h j c hj
  exact ⟨r, b.byte⟩
/-- How much the first chunks take. -/
def szT (cs : List Ck) (k : Nat) : Nat := szC (cs.take k)
theorem szC_app : ∀ (a b : List Ck), szC (a ++ b) + 12 = szC a + szC b
  | [], b => by simp [szC]; omega
  | c :: r, b => by
    have := szC_app r b
    simp only [List.cons_append, szC]; omega
theorem szT_succ {cs : List Ck} {k : Nat} (h : k < cs.length) : szT cs (k + 1) = szT cs k + (12 + cs[k].2.length + 4) := by
  unfold szT
  rw [List.take_succ_eq_append_getElem h]
  have := szC_app (cs.take k) [cs[k]]
  simp only [szC] at this
  omega
theorem szT_bd {cs : List Ck} (h : ∀ c ∈ cs, c.2.length ≤ 281474976710656) : ∀ k, k ≤ cs.length → szT cs k ≤ 12 + 281474976710672 * k
  | 0, _ => by simp [szT, szC]
  | k + 1, hk => by
    have ih := szT_bd h k (by omega)
    have hc := h cs[k] (List.getElem_mem (by omega))
    rw [szT_succ (by omega)]
    omega
set_option maxHeartbeats 1600000 in
set_option maxRecDepth 100000 in
theorem size_any (lo : Option Addr) (cl : Nat) (cs : List Ck) (w : World) (hn : cs.length ≤ 1024) (h : Cs w lo cs) :
    Calls Tryd.prog 22 #[.slice lo cs.length cl] w fun e w' => e = .returned (.int .i64 (szC cs : Nat)) ∧ Below w.heap.size w w' := by
  have H := hid1 h
  have SB : Hid (∀ k, k ≤ cs.length → szT cs k ≤ 12 + 281474976710672 * k) := hid1 (szT_bd fun c hc => by
    obtain ⟨j, hj⟩ := List.getElem?_of_mem hc
    obtain ⟨_, _, _, _, _, _, _, _, _, r⟩ := h j c hj
    exact r)
  clear h
  go_enter Tryd.func22, Tryd.ntmps22
  go_wp2
  go_loopw [3, 8] (fun s i wr => ∃ k v : Nat, k ≤ cs.length ∧ i = .int .i64 k ∧ s = .int .i64 v ∧ Hid (v = szT cs k) ∧ Below w.heap.size w wr) (fun _ i _ => cs.length - (intOf i).toNat)
  case atStart => exact ⟨0, 12, Nat.zero_le _, rfl, rfl, hid1 rfl, Below.refl _ _⟩
  case round =>
    obtain ⟨k, v, hk, rfl, rfl, HV, hnx⟩ := hrel
    have ik0 : (0 : Int) ≤ (k : Int) := by omega
    by_cases hlt : k < cs.length
    · have ik : (k : Int) < (cs.length : Int) := by omega
      obtain ⟨gl, ol, ao, cap, rfl, c1, c2, b, r1, r2⟩ := (H.out.keep hnx) k cs[k] (List.getElem?_eq_getElem hlt)
      have bv := SB.out k hk
      rw [← HV.out] at bv
      have HN : Hid (v + (12 + cs[k].2.length + 4) = szT cs (k + 1)) := hid1 (by rw [szT_succ hlt, HV.out])
      have zz := lt_of_cell c1
      obtain ⟨y, ey⟩ : ∃ y, cs[k].2.length = y := ⟨_, rfl⟩
      rw [ey] at c2 HN r2
      have e1 : wrap64 (12 + (y : Int)) = ((12 + y : Nat) : Int) := by unfold wrap64; omega
      have e2 : wrap64 (((12 + y : Nat) : Int) + 4) = ((12 + y + 4 : Nat) : Int) := by unfold wrap64; omega
      have e3 : wrap64 ((v : Int) + ((12 + y + 4 : Nat) : Int)) = ((v + (12 + y + 4) : Nat) : Int) := by unfold wrap64; omega
      clear ey b r1
      go_wp2_with fail
      exact ⟨⟨k + 1, _, by omega, by go_num, rfl, HN, bl_alloc hnx _⟩, by simp [intOf]; omega⟩
    · obtain rfl : k = cs.length := by omega
      go_wp2
      go_ret
      exact ⟨ret_int (by rw [HV.out, szT, List.take_length]), hnx⟩
theorem bl_bp {S : Nat → Prop} {a W w' : World} (h : Below a.heap.size a W) (hb : BP S W w') (hs : ∀ x, x < a.heap.size → ¬ S x) : Below a.heap.size a w' :=
  ⟨hb.os.trans h.os, hb.tape.trans h.tape, hb.output.trans h.output, Nat.le_trans h.size hb.size, fun k hk => (hb.block k (Nat.lt_of_lt_of_le hk h.size) (hs k hk)).trans (h.block k hk)⟩
theorem bl_but {a W w' : World} {g : Nat} (h : Below a.heap.size a W) (hb : BP (· = g) W w') (hs : a.heap.size ≤ g) : Below a.heap.size a w' := bl_bp h hb fun x hx e => by omega
theorem cksB_succ {cs : List Ck} {k : Nat} (h : k < cs.length) : cksB (cs.take (k + 1)) = cksB (cs.take k) ++ ckB cs[k] := by
  rw [List.take_succ_eq_append_getElem h]
  have : ∀ a b : List Ck, cksB (a ++ b) = cksB a ++ cksB b := fun a b => by
    induction a with
    | nil => rfl
    | cons c r ih => simp only [List.cons_append, cksB, ih, List.append_assoc]
  rw [this]
  simp [cksB]
theorem Laid.pos {w : World} (h : Laid w) : 0 < w.heap.size := lt_of_cell (h 0 (by decide))
set_option maxHeartbeats 1600000 in
set_option maxRecDepth 100000 in
/-- Too long, or too many. -/
theorem write_long (m : Nat) (lo : Option Addr) (cl : Nat) (cs : List Ck) (w : World) (hn0 : cs.length ≤ 9223372036854775807) (h : Cs w lo cs) (hb : 1024 < cs.length ∨ 16777216 < szC cs) :
    Calls Tryd.prog 8 #[.int .u32 m, .slice lo cs.length cl] w fun e w' => e = .returned (.tuple #[.slice none 0 0, .int .i64 2]) ∧ Below w.heap.size w w' := by
  have H := hid1 h
  clear h
  go_enter Tryd.func8, Tryd.ntmps8
  by_cases h1 : 1024 < cs.length
  · have i1 : (1024 : Int) < (cs.length : Int) := by omega
    clear hb
    go_wp2_with fail
    go_ret2
    exact ⟨rfl, Below.refl _ _⟩
  · have hb2 : 16777216 < szC cs := by omega
    have i1 : ¬ (1024 : Int) < (cs.length : Int) := by omega
    have i2 : (16777216 : Int) < (szC cs : Int) := by omega
    clear hb
    go_wp2_with fail
    refine (size_any lo cl cs w (by omega) H.out).mono ?_
    rintro e w1 ⟨rfl, hb1⟩
    go_wp2_with fail
    go_ret2
    exact ⟨rfl, hb1⟩
theorem Cs.at {W : World} {lo : Option Addr} {cs : List Ck} (h : Cs W lo cs) {k : Nat} (hk : k < cs.length) : ∃ (gl ol : Nat) (ao : Option Addr) (cap : Nat), lo = some ⟨gl, ol, none⟩ ∧ W.cell? ⟨gl, ol + k * 2, none⟩ = some (.int .u32 (cs[k].1 : Int)) ∧ W.cell? ⟨gl, ol + k * 2 + 1, none⟩ = some (.slice ao cs[k].2.length cap) ∧ By W ao cs[k].2 ∧ cs[k].1 < 4294967296 ∧ cs[k].2.length ≤ 281474976710656 := h k cs[k] (List.getElem?_eq_getElem hk)
set_option maxHeartbeats 3200000 in
set_option maxRecDepth 100000 in
/-- The container. -/
theorem write_good (m : Nat) (lo : Option Addr) (cl : Nat) (cs : List Ck) (w : World) (LD : Laid w) (h : Cs w lo cs) (hn : cs.length ≤ 1024) (hs : szC cs ≤ 16777216) :
    Calls Tryd.prog 8 #[.int .u32 m, .slice lo cs.length cl] w fun e w' => ∃ g, e = .returned (.tuple #[.slice (some ⟨g, 0, none⟩) (szC cs) (szC cs), .int .i64 0]) ∧ w'.ownsRow w.heap.size 5 1 (.slice (some ⟨g, 0, none⟩) (szC cs) (szC cs)) (szC cs) (u8s (cont m cs)) ∧ Below w.heap.size w w' := by
  obtain ⟨i0, hi, hz0, hz1, hz2⟩ := info_parts info_u8
  have H := hid1 h
  have LL := hid1 LD
  have lp := LD.pos
  have i1 : ¬ (1024 : Int) < (cs.length : Int) := by omega
  have i2 : ¬ (16777216 : Int) < (szC cs : Int) := by omega
  have ZT : Hid (∀ k, k ≤ cs.length → 12 ≤ szT cs k ∧ szT cs k ≤ szC cs) := hid1 fun k hk => by
    unfold szT
    have := szC_app (cs.take k) (cs.drop k)
    rw [List.take_append_drop] at this
    have p : ∀ l, 12 ≤ szC l := fun l => by rw [← cksB_len]; omega
    have := p (cs.take k)
    have := p (cs.drop k)
    omega
  have EF : Hid (szC cs = szT cs cs.length) := hid1 (by unfold szT; rw [List.take_length])
  obtain ⟨n, en⟩ : ∃ n, szC cs = n := ⟨_, rfl⟩
  have SZ := hid1 (fun w h => size_any lo cl cs w hn h)
  rw [en] at hs i2 ZT SZ EF ⊢
  clear h LD en
  go_enter Tryd.func8, Tryd.ntmps8
  go_wp2_with fail
  refine (SZ.out w H.out).mono ?_
  rintro e w1 ⟨rfl, hb1⟩
  go_wp2_with fail
  refine (SZ.out w1 (H.out.keep hb1)).mono ?_
  rintro e w2 ⟨rfl, hb2⟩
  have B2 := bl_step hb1 hb2
  have z2 := B2.size
  clear hb1 hb2
  obtain ⟨w3, mk, own, gr⟩ := run_make_own (P := Tryd.prog) w2 w.heap.size 25 5 i0 (.int .u8 0) 1 und_u8s hi hz0 hz1 .i64 .i64 n (by rw [hz2]; omega) (by unfold maxLen; omega) z2
  have O3 := hid1 own
  have B3 : Below w.heap.size w w3 := B2.grown gr z2 (fun q hq => by cases hq)
  clear own gr B2
  generalize w2.heap.size = g at *
  go_wp2_with fail
  refine (addHead_any w.heap.size g 0 n m cs.length [] w3 (LL.out.on B3) (by omega) (by omega) (by have := ZT.out 0 (Nat.zero_le _); omega) hs (by simp) O3.out).mono ?_
  rintro e w4 ⟨rfl, own4, bp4⟩
  have O4 := hid1 own4
  have B4 : Below w.heap.size w w4 := bl_but B3 bp4 z2
  clear own4 bp4 B3 O3 mk
  go_wp2_with fail
  go_loopw [6, 27] (fun b i wr => ∃ k x : Nat, k ≤ cs.length ∧ i = .int .i64 k ∧ b = .slice (some ⟨g, 0, none⟩) x n ∧ Hid (x = szT cs k) ∧ Hid (wr.ownsRow w.heap.size 5 1 (.slice (some ⟨g, 0, none⟩) x n) x (u8s (hdB m cs.length ++ cksB (cs.take k)))) ∧ Below w.heap.size w wr) (fun _ i _ => cs.length - (intOf i).toNat)
  case atStart => exact ⟨0, 12, Nat.zero_le _, rfl, rfl, hid1 rfl, O4, B4⟩
  case round =>
    clear O4 B4
    obtain ⟨k, x, hk, rfl, rfl, HV, HO, hnx⟩ := hrel
    have ik0 : (0 : Int) ≤ (k : Int) := by omega
    by_cases hlt : k < cs.length
    · have ik : (k : Int) < (cs.length : Int) := by omega
      obtain ⟨gl, ol, ao, cap, rfl, c1, c2, b, r1, r2⟩ := H.out.at hlt
      replace c1 := keepc hnx c1
      replace c2 := keepc hnx c2
      have zz := lt_of_cell c1
      have HN : Hid (x + (12 + cs[k].2.length + 4) = szT cs (k + 1)) := hid1 (by rw [szT_succ hlt, HV.out])
      have bv := (ZT.out (k + 1) (by omega)).2
      rw [← HN.out] at bv
      have HC : Hid (∀ l, l = cs[k].2 → hdB m cs.length ++ cksB (cs.take (k + 1)) = hdB m cs.length ++ cksB (cs.take k) ++ hdB cs[k].1 l.length ++ l ++ four (crc l)) := hid1 fun l hl => by
        rw [hl, cksB_succ hlt]
        simp only [ckB, List.append_assoc]
      have hbl : Hid (∀ y ∈ hdB m cs.length ++ cksB (cs.take k), y < 256) := hid1 (app_lt (hdB_lt _ _) (cksB_lt fun c hc => H.out.ok c (List.mem_of_mem_take hc)))
      obtain ⟨l, el⟩ : ∃ l, cs[k].2 = l := ⟨_, rfl⟩
      obtain ⟨tg, et⟩ : ∃ t, cs[k].1 = t := ⟨_, rfl⟩
      replace HC := hid1 (HC.out l el.symm)
      rw [el] at b r2 c2 HN bv
      rw [et] at c1 r1 HC
      have BB := hid1 b
      clear b el et
      go_wp2_with fail
      refine gen_calls (fun W => Below w.heap.size w W ∧ W.ownsRow w.heap.size 5 1 (.slice (some ⟨g, 0, none⟩) x n) x (u8s (hdB m cs.length ++ cksB (cs.take k))) ∧ W.cell? ⟨wr.heap.size, 1, none⟩ = some (.slice ao l.length cap) ∧ wr.heap.size < W.heap.size ∧ g < wr.heap.size) ⟨bl_alloc hnx _, HO.out.alloc _, by simp [go_sem], by simp, (HO.out.lt g rfl).2⟩ ?_
      clear c1 c2 hnx HO zz
      rintro W ⟨B5, O5, c8, z8, zg⟩
      generalize wr.heap.size = b8 at *
      refine (addHead_any w.heap.size g x n tg l.length _ W (LL.out.on B5) (by omega) (by omega) (by omega) hs hbl.out O5).mono ?_
      rintro e w6 ⟨rfl, own6, bp6⟩
      have O6 := hid1 own6
      replace c8 := bp6.cell (by omega) c8
      have B6 := bl_but B5 bp6 z2
      have z6 := bp6.size
      clear own6 bp6 B5 O5
      have by6 := hid1 (BB.out.keep B6)
      go_wp2_with ((at_builtin; refine wp_fit8 rfl _ _ rfl w.heap.size g (x + 12) n _ (by go_simp) O6.out ao l.length cap l (by go_simp) rfl by6.out (by omega) ?_; intro w7 own7 bp7; have c9 := bp7.cell (by omega) c8; have O7 := hid1 own7; clear own7 c8))
      have B7 := bl_but B6 bp7 z2
      refine gen_calls (fun W => Below w.heap.size w W ∧ W.ownsRow w.heap.size 5 1 (.slice (some ⟨g, 0, none⟩) (x + 12 + l.length) n) (x + 12 + l.length) (u8s (hdB m cs.length ++ cksB (cs.take k) ++ hdB tg l.length ++ l)) ∧ Bys W (some ⟨w7.heap.size, 0, none⟩) [l]) ⟨bl_alloc B7 _, O7.out.alloc _, bys_one _ _ _ _ _ (BB.out.keep B7)⟩ ?_
      clear O7 B7 bp7 O6 B6 by6 c9 z6 z8
      rintro W2 ⟨B8, O8, y8⟩
      refine (sum_one w7.heap.size 1 l W2 (LL.out.on B8) (by omega) y8).mono ?_
      rintro e w9 ⟨rfl, rfl⟩
      have O9 := hid1 O8
      clear O8 y8
      go_wp2_with fail
      refine (addNumber_any w.heap.size g (x + 12 + l.length) n (crc l) _ w9 (by omega) O9.out).mono ?_
      rintro e w10 ⟨rfl, own10, bp10⟩
      have O10 := hid1 own10
      have B10 := bl_but B8 bp10 z2
      clear own10 bp10 O9 B8
      go_wp2_with fail
      refine ⟨⟨k + 1, x + 12 + l.length + 4, by omega, by go_num, rfl, hid1 (by rw [← HN.out]; omega), hid1 ?_, B10⟩, by simp [intOf]; omega⟩
      rw [HC.out]
      exact O10.out
    · obtain rfl : k = cs.length := by omega
      have ex : x = n := by rw [HV.out, EF.out]
      subst ex
      go_wp2
      go_ret2
      refine ⟨g, rfl, ?_, hnx⟩
      have := HO.out
      rw [List.take_length] at this
      exact this
end Go.Proofs.YtbpglkhgggokcaaDoor
