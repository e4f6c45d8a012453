import Derived.Test.YtlghmojjcfjibaaQCPoolAll
import Derived.Test.YtlghmojjcfjibaaQAPoolAll
/- THE DOCUMENT'S OWN Max AND Min; all four as functions of what is asked. -/
namespace Go.Proofs.Ytlghmojjcfjibaa
open Go.RowKit Go.Shelf

set_option maxHeartbeats 3200000 in
set_option maxRecDepth 100000 in
theorem rmax_bad (h v c : Int) (ao : Option Addr) (m cap N : Nat) (r s sy sx t l b q : Int) (w : World) (rd : Wr w ao m N) (hE : poE h v c m N r s sy sx t l b q ≠ 0) :
    Calls Try.prog 29 #[cuv h v c ao m cap, Sg.win r s sy sx t l b q] w fun e w' => e = .returned (.tuple #[cuv 0 0 0 none 0 0, .int .i64 (poE h v c m N r s sy sx t l b q)]) ∧ Below w.heap.size w w' := by
  have HG := hid1 (fun W r' => rpooled_bad false h v c ao m cap N r s sy sx t l b q W r' hE)
  clear hE
  generalize poE h v c m N r s sy sx t l b q = EE at *
  have HST := hid1 (pooled_start w h v c ao m cap r s sy sx t l b q)
  have RD := hid1 rd
  clear rd
  go_enter Try.func29, Try.ntmps29
  go_wp2_with fail
  refine gen_calls (fun W => W.heap.size = w.heap.size + 3 ∧ Below w.heap.size w W ∧ W.rowIs w.heap.size 26 4 (cf h v c ao m cap) ∧ Sg.Wn W (w.heap.size + 1) 0 r s sy sx t l b q ∧ W.rowIs (w.heap.size + 2) 26 4 (cf 0 0 0 none 0 0)) (by obtain ⟨X, rfl, z⟩ := HST.out; exact z) ?_
  rintro W ⟨z0, B0, b0, b1, b2⟩
  refine (HG.out W (RD.out.below B0)).mono ?_
  rintro e w1 ⟨rfl, hb⟩
  replace b2 := keepr hb b2
  have B1 := bl_step B0 hb
  clear hb B0 b0 b1
  have f0 := b2.frozen 0
  have f1 := b2.frozen 1
  have f2 := b2.frozen 2
  have f3 := b2.frozen 3
  have d0 := cf0 b2
  have d1 := cf1 b2
  have d2 := cf2 b2
  have d3 := cf3 b2
  have u := cf_set b2 0 0 0 none 0 0
  have u0 := cf0 u
  have u1 := cf1 u
  have u2 := cf2 u
  have u3 := cf3 u
  clear u
  go_wp2_with fail
  exact bodyPost_ret (v := .tuple #[cuv 0 0 0 none 0 0, .int .i64 EE]) (by simp [results, Try.results29, go_sem, u0, u1, u2, u3]) rfl ⟨rfl, bl_set (bl_set (bl_set (bl_set B1 (by omega) _) (by omega) _) (by omega) _) (by omega) _⟩
set_option maxHeartbeats 3200000 in
set_option maxRecDepth 100000 in
theorem rmax_ok (H V C R S y x g o m cap N OH OW M : Nat) (w : World) (pg : Pg H V C R S y x m N) (eH : oS H R y = OH) (eW : oS V S x = OW) (eM : OH * OW * nw C = M) (rd : Wr w (some ⟨g, o, none⟩) m N) :
    Calls Try.prog 29 #[cuv H V C (some ⟨g, o, none⟩) m cap, Sg.win R S y x 0 0 0 0] w fun e w' => ∃ G, e = .returned (.tuple #[cuv OH OW C (some ⟨G, 0, none⟩) M M, .int .i64 0]) ∧ w.heap.size ≤ G ∧ w'.rowIs G 66 M (wf (poN false N V (nw C) R S y x OW (OH * OW))) ∧ Below w.heap.size w w' := by
  have HG := hid1 (fun W r' => rpooled_ok false H V C R S y x g o m cap N OH OW M W pg eH eW eM r')
  clear pg eH eW eM
  generalize poN false N V (nw C) R S y x OW (OH * OW) = X at *
  have HST := hid1 (pooled_start w H V C (some ⟨g, o, none⟩) m cap R S y x 0 0 0 0)
  have RD := hid1 rd
  clear rd
  go_enter Try.func29, Try.ntmps29
  go_wp2_with fail
  refine gen_calls (fun W => W.heap.size = w.heap.size + 3 ∧ Below w.heap.size w W ∧ W.rowIs w.heap.size 26 4 (cf H V C (some ⟨g, o, none⟩) m cap) ∧ Sg.Wn W (w.heap.size + 1) 0 R S y x 0 0 0 0 ∧ W.rowIs (w.heap.size + 2) 26 4 (cf 0 0 0 none 0 0)) (by obtain ⟨X, rfl, z⟩ := HST.out; exact z) ?_
  rintro W ⟨z0, B0, b0, b1, b2⟩
  refine (HG.out W (RD.out.below B0)).mono ?_
  rintro e w1 ⟨G, rfl, hG, row, hb⟩
  replace b2 := keepr hb b2
  have B1 := bl_step B0 hb
  clear hb B0 b0 b1
  have f0 := b2.frozen 0
  have f1 := b2.frozen 1
  have f2 := b2.frozen 2
  have f3 := b2.frozen 3
  have d0 := cf0 b2
  have d1 := cf1 b2
  have d2 := cf2 b2
  have d3 := cf3 b2
  have PE := hid1 (pool_end (h := OH) (v := OW) (c := C) b2 row hG (And.intro (Nat.le_add_right _ _) (by omega)) B1)
  clear b2 row
  go_wp2_with fail
  obtain ⟨q, hG', qr, qB⟩ := PE.out
  have u0 := cf0 q
  have u1 := cf1 q
  have u2 := cf2 q
  have u3 := cf3 q
  exact bodyPost_ret (v := .tuple #[cuv OH OW C (some ⟨G, 0, none⟩) M M, .int .i64 0]) (by simp [results, Try.results29, go_sem, u0, u1, u2, u3]) rfl ⟨G, rfl, hG', qr, qB⟩
set_option maxHeartbeats 3200000 in
set_option maxRecDepth 100000 in
theorem rmin_bad (h v c : Int) (ao : Option Addr) (m cap N : Nat) (r s sy sx t l b q : Int) (w : World) (rd : Wr w ao m N) (hE : poE h v c m N r s sy sx t l b q ≠ 0) :
    Calls Try.prog 30 #[cuv h v c ao m cap, Sg.win r s sy sx t l b q] w fun e w' => e = .returned (.tuple #[cuv 0 0 0 none 0 0, .int .i64 (poE h v c m N r s sy sx t l b q)]) ∧ Below w.heap.size w w' := by
  have HG := hid1 (fun W r' => rpooled_bad true h v c ao m cap N r s sy sx t l b q W r' hE)
  clear hE
  generalize poE h v c m N r s sy sx t l b q = EE at *
  have HST := hid1 (pooled_start w h v c ao m cap r s sy sx t l b q)
  have RD := hid1 rd
  clear rd
  go_enter Try.func30, Try.ntmps30
  go_wp2_with fail
  refine gen_calls (fun W => W.heap.size = w.heap.size + 3 ∧ Below w.heap.size w W ∧ W.rowIs w.heap.size 26 4 (cf h v c ao m cap) ∧ Sg.Wn W (w.heap.size + 1) 0 r s sy sx t l b q ∧ W.rowIs (w.heap.size + 2) 26 4 (cf 0 0 0 none 0 0)) (by obtain ⟨X, rfl, z⟩ := HST.out; exact z) ?_
  rintro W ⟨z0, B0, b0, b1, b2⟩
  refine (HG.out W (RD.out.below B0)).mono ?_
  rintro e w1 ⟨rfl, hb⟩
  replace b2 := keepr hb b2
  have B1 := bl_step B0 hb
  clear hb B0 b0 b1
  have f0 := b2.frozen 0
  have f1 := b2.frozen 1
  have f2 := b2.frozen 2
  have f3 := b2.frozen 3
  have d0 := cf0 b2
  have d1 := cf1 b2
  have d2 := cf2 b2
  have d3 := cf3 b2
  have u := cf_set b2 0 0 0 none 0 0
  have u0 := cf0 u
  have u1 := cf1 u
  have u2 := cf2 u
  have u3 := cf3 u
  clear u
  go_wp2_with fail
  exact bodyPost_ret (v := .tuple #[cuv 0 0 0 none 0 0, .int .i64 EE]) (by simp [results, Try.results30, go_sem, u0, u1, u2, u3]) rfl ⟨rfl, bl_set (bl_set (bl_set (bl_set B1 (by omega) _) (by omega) _) (by omega) _) (by omega) _⟩
set_option maxHeartbeats 3200000 in
set_option maxRecDepth 100000 in
theorem rmin_ok (H V C R S y x g o m cap N OH OW M : Nat) (w : World) (pg : Pg H V C R S y x m N) (eH : oS H R y = OH) (eW : oS V S x = OW) (eM : OH * OW * nw C = M) (rd : Wr w (some ⟨g, o, none⟩) m N) :
    Calls Try.prog 30 #[cuv H V C (some ⟨g, o, none⟩) m cap, Sg.win R S y x 0 0 0 0] w fun e w' => ∃ G, e = .returned (.tuple #[cuv OH OW C (some ⟨G, 0, none⟩) M M, .int .i64 0]) ∧ w.heap.size ≤ G ∧ w'.rowIs G 66 M (wf (poN true N V (nw C) R S y x OW (OH * OW))) ∧ Below w.heap.size w w' := by
  have HG := hid1 (fun W r' => rpooled_ok true H V C R S y x g o m cap N OH OW M W pg eH eW eM r')
  clear pg eH eW eM
  generalize poN true N V (nw C) R S y x OW (OH * OW) = X at *
  have HST := hid1 (pooled_start w H V C (some ⟨g, o, none⟩) m cap R S y x 0 0 0 0)
  have RD := hid1 rd
  clear rd
  go_enter Try.func30, Try.ntmps30
  go_wp2_with fail
  refine gen_calls (fun W => W.heap.size = w.heap.size + 3 ∧ Below w.heap.size w W ∧ W.rowIs w.heap.size 26 4 (cf H V C (some ⟨g, o, none⟩) m cap) ∧ Sg.Wn W (w.heap.size + 1) 0 R S y x 0 0 0 0 ∧ W.rowIs (w.heap.size + 2) 26 4 (cf 0 0 0 none 0 0)) (by obtain ⟨X, rfl, z⟩ := HST.out; exact z) ?_
  rintro W ⟨z0, B0, b0, b1, b2⟩
  refine (HG.out W (RD.out.below B0)).mono ?_
  rintro e w1 ⟨G, rfl, hG, row, hb⟩
  replace b2 := keepr hb b2
  have B1 := bl_step B0 hb
  clear hb B0 b0 b1
  have f0 := b2.frozen 0
  have f1 := b2.frozen 1
  have f2 := b2.frozen 2
  have f3 := b2.frozen 3
  have d0 := cf0 b2
  have d1 := cf1 b2
  have d2 := cf2 b2
  have d3 := cf3 b2
  have PE := hid1 (pool_end (h := OH) (v := OW) (c := C) b2 row hG (And.intro (Nat.le_add_right _ _) (by omega)) B1)
  clear b2 row
  go_wp2_with fail
  obtain ⟨q, hG', qr, qB⟩ := PE.out
  have u0 := cf0 q
  have u1 := cf1 q
  have u2 := cf2 q
  have u3 := cf3 q
  exact bodyPost_ret (v := .tuple #[cuv OH OW C (some ⟨G, 0, none⟩) M M, .int .i64 0]) (by simp [results, Try.results30, go_sem, u0, u1, u2, u3]) rfl ⟨G, rfl, hG', qr, qB⟩

/-- A list of words in new memory, or none. -/
def Nw (w w' : World) (bo : Option Addr) (M X : Nat) : Prop := (bo = none ∧ M = 0 ∧ X = 0) ∨ ∃ G, bo = some ⟨G, 0, none⟩ ∧ w.heap.size ≤ G ∧ w'.rowIs G 66 M (wf X) ∧ X < 2 ^ (64 * M)
theorem Nw.wr {w w' : World} {bo : Option Addr} {M X : Nat} (h : Nw w w' bo M X) : Wr w' bo M X := by
  rcases h with ⟨rfl, rfl, rfl⟩ | ⟨G, rfl, _, row, hX⟩
  · exact Wr.nil _
  · exact Wr.row row hX
section
variable (h v c : Int) (m N : Nat) (r s sy sx t l b q : Int)
def aH : Int := if poE h v c m N r s sy sx t l b q = 0 then (oS h.toNat r.toNat sy.toNat : Nat) else 0
def aV : Int := if poE h v c m N r s sy sx t l b q = 0 then (oS v.toNat s.toNat sx.toNat : Nat) else 0
def aC : Int := if poE h v c m N r s sy sx t l b q = 0 then c else 0
def aM : Nat := if poE h v c m N r s sy sx t l b q = 0 then oS h.toNat r.toNat sy.toNat * oS v.toNat s.toNat sx.toNat * nw c.toNat else 0
def aX (al : Bool) : Nat := if poE h v c m N r s sy sx t l b q = 0 then poN al N v.toNat (nw c.toNat) r.toNat s.toNat sy.toNat sx.toNat (oS v.toNat s.toNat sx.toNat) (oS h.toNat r.toNat sy.toNat * oS v.toNat s.toNat sx.toNat) else 0
end
theorem aM_le (h v c : Int) (m N : Nat) (r s sy sx t l b q : Int) : aM h v c m N r s sy sx t l b q ≤ 1073741824 := by
  unfold aM
  by_cases k : poE h v c m N r s sy sx t l b q = 0
  · rw [if_pos k]
    obtain ⟨H, V, C, R, S, y, x, rfl, rfl, rfl, rfl, rfl, rfl, rfl, rfl, rfl, rfl, rfl, pg⟩ := poE_zero k
    simp only [Int.toNat_natCast]
    exact (wo_bd (Nat.le_trans (oS_le pg.fH pg.hR.1) pg.hH.2) (Nat.le_trans (oS_le pg.fV pg.hS.1) pg.hV.2) pg.hC.2).2
  · rw [if_neg k]; omega
theorem max_fn (h v c : Int) (ao : Option Addr) (m cap N : Nat) (r s sy sx t l b q : Int) (w : World) (hmc : m ≤ cap) (hcap : cap ≤ 9223372036854775807) (rd : Wr w ao m N) :
    Calls Try.prog 12 #[cuv h v c ao m cap, Sg.win r s sy sx t l b q] w fun e w' => ∃ bo, e = .returned (.tuple #[cuv (aH h v c m N r s sy sx t l b q) (aV h v c m N r s sy sx t l b q) (aC h v c m N r s sy sx t l b q) bo (aM h v c m N r s sy sx t l b q) (aM h v c m N r s sy sx t l b q), .int .i64 (poE h v c m N r s sy sx t l b q)]) ∧ Nw w w' bo (aM h v c m N r s sy sx t l b q) (aX h v c m N r s sy sx t l b q false) ∧ Below w.heap.size w w' := by
  unfold aH aV aC aM aX
  by_cases k : poE h v c m N r s sy sx t l b q = 0
  · simp only [if_pos k]
    rw [k]
    obtain ⟨H, V, C, R, S, y, x, rfl, rfl, rfl, rfl, rfl, rfl, rfl, rfl, rfl, rfl, rfl, pg⟩ := poE_zero k
    obtain ⟨g, o, rfl⟩ := rd.some pg.qb.pos
    simp only [Int.toNat_natCast]
    refine (max_ok H V C R S y x g o m cap N _ _ _ w pg rfl rfl rfl hmc hcap rd).mono ?_
    rintro e w1 ⟨G, rfl, hG, row, hb⟩
    exact ⟨_, rfl, .inr ⟨G, rfl, hG, row, poN_lt _ _ _ _ _ _ _ _ _ _⟩, hb⟩
  · simp only [if_neg k]
    refine (max_bad h v c ao m cap N r s sy sx t l b q w hmc hcap rd k).mono ?_
    rintro e w1 ⟨rfl, hb⟩
    exact ⟨_, rfl, .inl ⟨rfl, rfl, rfl⟩, hb⟩
theorem min_fn (h v c : Int) (ao : Option Addr) (m cap N : Nat) (r s sy sx t l b q : Int) (w : World) (hmc : m ≤ cap) (hcap : cap ≤ 9223372036854775807) (rd : Wr w ao m N) :
    Calls Try.prog 13 #[cuv h v c ao m cap, Sg.win r s sy sx t l b q] w fun e w' => ∃ bo, e = .returned (.tuple #[cuv (aH h v c m N r s sy sx t l b q) (aV h v c m N r s sy sx t l b q) (aC h v c m N r s sy sx t l b q) bo (aM h v c m N r s sy sx t l b q) (aM h v c m N r s sy sx t l b q), .int .i64 (poE h v c m N r s sy sx t l b q)]) ∧ Nw w w' bo (aM h v c m N r s sy sx t l b q) (aX h v c m N r s sy sx t l b q true) ∧ Below w.heap.size w w' := by
  unfold aH aV aC aM aX
  by_cases k : poE h v c m N r s sy sx t l b q = 0
  · simp only [if_pos k]
    rw [k]
    obtain ⟨H, V, C, R, S, y, x, rfl, rfl, rfl, rfl, rfl, rfl, rfl, rfl, rfl, rfl, rfl, pg⟩ := poE_zero k
    obtain ⟨g, o, rfl⟩ := rd.some pg.qb.pos
    simp only [Int.toNat_natCast]
    refine (min_ok H V C R S y x g o m cap N _ _ _ w pg rfl rfl rfl hmc hcap rd).mono ?_
    rintro e w1 ⟨G, rfl, hG, row, hb⟩
    exact ⟨_, rfl, .inr ⟨G, rfl, hG, row, poN_lt _ _ _ _ _ _ _ _ _ _⟩, hb⟩
  · simp only [if_neg k]
    refine (min_bad h v c ao m cap N r s sy sx t l b q w hmc hcap rd k).mono ?_
    rintro e w1 ⟨rfl, hb⟩
    exact ⟨_, rfl, .inl ⟨rfl, rfl, rfl⟩, hb⟩
theorem rmax_fn (h v c : Int) (ao : Option Addr) (m cap N : Nat) (r s sy sx t l b q : Int) (w : World) (rd : Wr w ao m N) :
    Calls Try.prog 29 #[cuv h v c ao m cap, Sg.win r s sy sx t l b q] w fun e w' => ∃ bo, e = .returned (.tuple #[cuv (aH h v c m N r s sy sx t l b q) (aV h v c m N r s sy sx t l b q) (aC h v c m N r s sy sx t l b q) bo (aM h v c m N r s sy sx t l b q) (aM h v c m N r s sy sx t l b q), .int .i64 (poE h v c m N r s sy sx t l b q)]) ∧ Nw w w' bo (aM h v c m N r s sy sx t l b q) (aX h v c m N r s sy sx t l b q false) ∧ Below w.heap.size w w' := by
  unfold aH aV aC aM aX
  by_cases k : poE h v c m N r s sy sx t l b q = 0
  · simp only [if_pos k]
    rw [k]
    obtain ⟨H, V, C, R, S, y, x, rfl, rfl, rfl, rfl, rfl, rfl, rfl, rfl, rfl, rfl, rfl, pg⟩ := poE_zero k
    obtain ⟨g, o, rfl⟩ := rd.some pg.qb.pos
    simp only [Int.toNat_natCast]
    refine (rmax_ok H V C R S y x g o m cap N _ _ _ w pg rfl rfl rfl rd).mono ?_
    rintro e w1 ⟨G, rfl, hG, row, hb⟩
    exact ⟨_, rfl, .inr ⟨G, rfl, hG, row, poN_lt _ _ _ _ _ _ _ _ _ _⟩, hb⟩
  · simp only [if_neg k]
    refine (rmax_bad h v c ao m cap N r s sy sx t l b q w rd k).mono ?_
    rintro e w1 ⟨rfl, hb⟩
    exact ⟨_, rfl, .inl ⟨rfl, rfl, rfl⟩, hb⟩
theorem rmin_fn (h v c : Int) (ao : Option Addr) (m cap N : Nat) (r s sy sx t l b q : Int) (w : World) (rd : Wr w ao m N) :
    Calls Try.prog 30 #[cuv h v c ao m cap, Sg.win r s sy sx t l b q] w fun e w' => ∃ bo, e = .returned (.tuple #[cuv (aH h v c m N r s sy sx t l b q) (aV h v c m N r s sy sx t l b q) (aC h v c m N r s sy sx t l b q) bo (aM h v c m N r s sy sx t l b q) (aM h v c m N r s sy sx t l b q), .int .i64 (poE h v c m N r s sy sx t l b q)]) ∧ Nw w w' bo (aM h v c m N r s sy sx t l b q) (aX h v c m N r s sy sx t l b q true) ∧ Below w.heap.size w w' := by
  unfold aH aV aC aM aX
  by_cases k : poE h v c m N r s sy sx t l b q = 0
  · simp only [if_pos k]
    rw [k]
    obtain ⟨H, V, C, R, S, y, x, rfl, rfl, rfl, rfl, rfl, rfl, rfl, rfl, rfl, rfl, rfl, pg⟩ := poE_zero k
    obtain ⟨g, o, rfl⟩ := rd.some pg.qb.pos
    simp only [Int.toNat_natCast]
    refine (rmin_ok H V C R S y x g o m cap N _ _ _ w pg rfl rfl rfl rd).mono ?_
    rintro e w1 ⟨G, rfl, hG, row, hb⟩
    exact ⟨_, rfl, .inr ⟨G, rfl, hG, row, poN_lt _ _ _ _ _ _ _ _ _ _⟩, hb⟩
  · simp only [if_neg k]
    refine (rmin_bad h v c ao m cap N r s sy sx t l b q w rd k).mono ?_
    rintro e w1 ⟨rfl, hb⟩
    exact ⟨_, rfl, .inl ⟨rfl, rfl, rfl⟩, hb⟩
end Go.Proofs.Ytlghmojjcfjibaa
/- PoolAll. -/
namespace Go.Proofs.Ytlghmojjcfjibaa
open Go.RowKit Go.Shelf

/-- What PoolAll has in memory in a round: the cube with room, the cube that came in, the window. -/
structure Qa (W : World) (bm G : Nat) (h v c : Int) (n N g o : Nat) (xo : Option Addr) (xc gw ow : Nat) (r s sy sx t l b q : Int) : Prop where
  cm : W.rowIs bm 26 4 (cf h v c (some ⟨G, 0, none⟩) n (n + 66))
  rg : W.rowIs G 66 (n + 66) (rmf N n)
  c4 : W.cell? ⟨g, o, none⟩ = some (.int .i64 h) ∧ W.cell? ⟨g, o + 1, none⟩ = some (.int .i64 v) ∧ W.cell? ⟨g, o + 2, none⟩ = some (.int .i64 c) ∧ W.cell? ⟨g, o + 3, none⟩ = some (.slice xo n xc)
  wx : Wr W xo n N
  wn : Sg.Wn W gw ow r s sy sx t l b q
theorem Qa.keep {W X : World} {bm G : Nat} {h v c : Int} {n N g o : Nat} {xo : Option Addr} {xc gw ow : Nat} {r s sy sx t l b q : Int} (k : Qa W bm G h v c n N g o xo xc gw ow r s sy sx t l b q) (hb : Below W.heap.size W X) : Qa X bm G h v c n N g o xo xc gw ow r s sy sx t l b q :=
  ⟨keepr hb k.cm, keepr hb k.rg, ⟨keepc hb k.c4.1, keepc hb k.c4.2.1, keepc hb k.c4.2.2.1, keepc hb k.c4.2.2.2⟩, k.wx.below hb, k.wn.keep hb⟩
theorem Qa.kpM {W X : World} {bm G : Nat} {h v c : Int} {n N g o : Nat} {xo : Option Addr} {xc gw ow : Nat} {r s sy sx t l b q : Int} (k : Qa W bm G h v c n N g o xo xc gw ow r s sy sx t l b q) (hb : Below W.heap.size W X) :
    (X.cell? ⟨bm, 0, none⟩ = some (.int .i64 h) ∧ X.cell? ⟨bm, 1, none⟩ = some (.int .i64 v) ∧ X.cell? ⟨bm, 2, none⟩ = some (.int .i64 c) ∧ X.cell? ⟨bm, 3, none⟩ = some (.slice (some ⟨G, 0, none⟩) n (n + 66))) ∧ (X.cell? ⟨gw, ow, none⟩ = some (.int .i64 r) ∧ X.cell? ⟨gw, ow + 1, none⟩ = some (.int .i64 s) ∧ X.cell? ⟨gw, ow + 2, none⟩ = some (.int .i64 sy) ∧ X.cell? ⟨gw, ow + 3, none⟩ = some (.int .i64 sx) ∧ X.cell? ⟨gw, ow + 4, none⟩ = some (.int .i64 t) ∧ X.cell? ⟨gw, ow + 5, none⟩ = some (.int .i64 l) ∧ X.cell? ⟨gw, ow + 6, none⟩ = some (.int .i64 b) ∧ X.cell? ⟨gw, ow + 7, none⟩ = some (.int .i64 q)) :=
  ⟨⟨cf0 (keepr hb k.cm), cf1 (keepr hb k.cm), cf2 (keepr hb k.cm), cf3 (keepr hb k.cm)⟩, k.wn.keep hb⟩
theorem Qa.kpC {W X : World} {bm G : Nat} {h v c : Int} {n N g o : Nat} {xo : Option Addr} {xc gw ow : Nat} {r s sy sx t l b q : Int} (k : Qa W bm G h v c n N g o xo xc gw ow r s sy sx t l b q) (hb : Below W.heap.size W X) :
    (X.cell? ⟨g, o, none⟩ = some (.int .i64 h) ∧ X.cell? ⟨g, o + 1, none⟩ = some (.int .i64 v) ∧ X.cell? ⟨g, o + 2, none⟩ = some (.int .i64 c) ∧ X.cell? ⟨g, o + 3, none⟩ = some (.slice xo n xc)) ∧ (X.cell? ⟨gw, ow, none⟩ = some (.int .i64 r) ∧ X.cell? ⟨gw, ow + 1, none⟩ = some (.int .i64 s) ∧ X.cell? ⟨gw, ow + 2, none⟩ = some (.int .i64 sy) ∧ X.cell? ⟨gw, ow + 3, none⟩ = some (.int .i64 sx) ∧ X.cell? ⟨gw, ow + 4, none⟩ = some (.int .i64 t) ∧ X.cell? ⟨gw, ow + 5, none⟩ = some (.int .i64 l) ∧ X.cell? ⟨gw, ow + 6, none⟩ = some (.int .i64 b) ∧ X.cell? ⟨gw, ow + 7, none⟩ = some (.int .i64 q)) :=
  ⟨(k.keep hb).c4, k.wn.keep hb⟩
theorem c4_keep {W X : World} {g o : Nat} {v0 v1 v2 v3 : Value} (h : W.cell? ⟨g, o, none⟩ = some v0 ∧ W.cell? ⟨g, o + 1, none⟩ = some v1 ∧ W.cell? ⟨g, o + 2, none⟩ = some v2 ∧ W.cell? ⟨g, o + 3, none⟩ = some v3) (hb : Below W.heap.size W X) : X.cell? ⟨g, o, none⟩ = some v0 ∧ X.cell? ⟨g, o + 1, none⟩ = some v1 ∧ X.cell? ⟨g, o + 2, none⟩ = some v2 ∧ X.cell? ⟨g, o + 3, none⟩ = some v3 :=
  ⟨keepc hb h.1, keepc hb h.2.1, keepc hb h.2.2.1, keepc hb h.2.2.2⟩
/-- An answer that is kept in a new block: the block made behind the call, or ahead of it. -/
theorem ans_a {wr y : World} {bo : Option Addr} {M X : Nat} {h v c : Int} (nw' : Nw wr y bo M X) (hb : Below wr.heap.size wr y) : (y.alloc (.cells #[.int .i64 h, .int .i64 v, .int .i64 c, .slice bo M M] 26)).rowIs y.heap.size 26 4 (cf h v c bo M M) ∧ Wr (y.alloc (.cells #[.int .i64 h, .int .i64 v, .int .i64 c, .slice bo M M] 26)) bo M X ∧ Below wr.heap.size wr (y.alloc (.cells #[.int .i64 h, .int .i64 v, .int .i64 c, .slice bo M M] 26)) :=
  ⟨cu_new _ _ _ _ _ _ _ _, nw'.wr.below (bl_alloc (Below.refl _ _) _), bl_alloc hb _⟩
theorem ans_b {wr y : World} {bo : Option Addr} {b z M X : Nat} {h v c h0 v0 c0 : Int} {a0 : Option Addr} {m0 k0 : Nat} (r : y.rowIs b 26 4 (cf h0 v0 c0 a0 m0 k0)) (hz : b < z) (nw' : (bo = none ∧ M = 0 ∧ X = 0) ∨ ∃ G, bo = some ⟨G, 0, none⟩ ∧ z ≤ G ∧ y.rowIs G 66 M (wf X) ∧ X < 2 ^ (64 * M)) (hb : Below wr.heap.size wr y) (hw : wr.heap.size ≤ b) :
    ((((y.setCell ⟨b, 0, none⟩ (.int .i64 h)).setCell ⟨b, 1, none⟩ (.int .i64 v)).setCell ⟨b, 2, none⟩ (.int .i64 c)).setCell ⟨b, 3, none⟩ (.slice bo M M)).rowIs b 26 4 (cf h v c bo M M) ∧ Wr ((((y.setCell ⟨b, 0, none⟩ (.int .i64 h)).setCell ⟨b, 1, none⟩ (.int .i64 v)).setCell ⟨b, 2, none⟩ (.int .i64 c)).setCell ⟨b, 3, none⟩ (.slice bo M M)) bo M X ∧ Below wr.heap.size wr ((((y.setCell ⟨b, 0, none⟩ (.int .i64 h)).setCell ⟨b, 1, none⟩ (.int .i64 v)).setCell ⟨b, 2, none⟩ (.int .i64 c)).setCell ⟨b, 3, none⟩ (.slice bo M M)) := by
  have bt : But b y ((((y.setCell ⟨b, 0, none⟩ (.int .i64 h)).setCell ⟨b, 1, none⟩ (.int .i64 v)).setCell ⟨b, 2, none⟩ (.int .i64 c)).setCell ⟨b, 3, none⟩ (.slice bo M M)) := ((((But.refl b y).set _).set _).set _).set _
  refine ⟨cf_set r _ _ _ _ _ _, ?_, bl_set (bl_set (bl_set (bl_set hb hw _) hw _) hw _) hw _⟩
  rcases nw' with ⟨rfl, rfl, rfl⟩ | ⟨G, rfl, hG, row, hX⟩
  · exact Wr.nil _
  · exact Wr.row (bt.row (by omega) row) hX
theorem kpZ {W X : World} {bm G : Nat} {h v c : Int} {n N g o : Nat} {xo : Option Addr} {xc gw ow : Nat} {r s sy sx t l b q : Int} {ab bb mb pb M : Nat} {ao bo mo po : Option Addr} {h' v' c' : Int} (k : Qa W bm G h v c n N g o xo xc gw ow r s sy sx t l b q) (ha : W.rowIs ab 26 4 (cf h' v' c' ao M M)) (hb : W.rowIs bb 26 4 (cf h' v' c' bo M M)) (hm : W.rowIs mb 26 4 (cf h' v' c' mo M M)) (hp : W.rowIs pb 26 4 (cf h' v' c' po M M)) (hB : Below W.heap.size W X) :
    (X.cell? ⟨ab, 0, none⟩ = some (.int .i64 h') ∧ X.cell? ⟨ab, 1, none⟩ = some (.int .i64 v') ∧ X.cell? ⟨ab, 2, none⟩ = some (.int .i64 c') ∧ X.cell? ⟨ab, 3, none⟩ = some (.slice ao M M)) ∧ (X.cell? ⟨bb, 0, none⟩ = some (.int .i64 h') ∧ X.cell? ⟨bb, 1, none⟩ = some (.int .i64 v') ∧ X.cell? ⟨bb, 2, none⟩ = some (.int .i64 c') ∧ X.cell? ⟨bb, 3, none⟩ = some (.slice bo M M)) ∧ (X.cell? ⟨mb, 0, none⟩ = some (.int .i64 h') ∧ X.cell? ⟨mb, 1, none⟩ = some (.int .i64 v') ∧ X.cell? ⟨mb, 2, none⟩ = some (.int .i64 c') ∧ X.cell? ⟨mb, 3, none⟩ = some (.slice mo M M)) ∧ (X.cell? ⟨pb, 0, none⟩ = some (.int .i64 h') ∧ X.cell? ⟨pb, 1, none⟩ = some (.int .i64 v') ∧ X.cell? ⟨pb, 2, none⟩ = some (.int .i64 c') ∧ X.cell? ⟨pb, 3, none⟩ = some (.slice po M M)) ∧ X.cell? ⟨bm, 3, none⟩ = some (.slice (some ⟨G, 0, none⟩) n (n + 66)) ∧ X.cell? ⟨g, o + 3, none⟩ = some (.slice xo n xc) :=
  ⟨⟨cf0 (keepr hB ha), cf1 (keepr hB ha), cf2 (keepr hB ha), cf3 (keepr hB ha)⟩, ⟨cf0 (keepr hB hb), cf1 (keepr hB hb), cf2 (keepr hB hb), cf3 (keepr hB hb)⟩, ⟨cf0 (keepr hB hm), cf1 (keepr hB hm), cf2 (keepr hB hm), cf3 (keepr hB hm)⟩, ⟨cf0 (keepr hB hp), cf1 (keepr hB hp), cf2 (keepr hB hp), cf3 (keepr hB hp)⟩, cf3 (keepr hB k.cm), keepc hB k.c4.2.2.2⟩
set_option maxHeartbeats 12800000 in
set_option maxRecDepth 100000 in
theorem poolAll_any (ao : Option Addr) (L cap : Nat) (bo : Option Addr) (L2 cap2 : Nat) (w : World) (hL : L ≤ 9223372036854775807) (hL2 : L2 ≤ 9223372036854775807) (ra : LqU w ao L) (rb : LwU w bo L2) :
    Calls Try.prog 7 #[.slice ao L cap, .slice bo L2 cap2] w fun e w' => e = .returned (.bool true) ∧ Below w.heap.size w w' := by
  have RA := hid1 ra
  have RB := hid1 rb
  clear ra rb
  go_enter Try.func7, Try.ntmps7
  go_wp2_with fail
  refine (ubegun_any w).mono ?_
  rintro e w1 ⟨rfl, B1⟩
  go_wp2_with fail
  go_loopw [5] (fun i wr => ∃ k : Nat, k ≤ L ∧ i = .int .i64 k ∧ Below w.heap.size w wr) (fun i _ => L - (intOf i).toNat)
  case atStart => exact ⟨0, Nat.zero_le _, rfl, B1⟩
  case round =>
    clear B1
    obtain ⟨k, hk, rfl, hnx⟩ := hrel
    by_cases hlt : k < L
    · obtain ⟨g, o0, h, v, c, xo, n, xc, N, rfl, c4, wx, hn, hnc, hxc⟩ := RA.out k hlt
      have ik : (k : Int) < (L : Nat) := by omega
      have ik0 : (0 : Int) ≤ (k : Int) := by omega
      have HC4 := hid1 c4
      have HWX := hid1 wx
      have HB0 := hid1 hnx
      clear c4 wx hnx
      go_wp2_with fail
      go_loopw [6] (fun i wr => ∃ j : Nat, j ≤ L2 ∧ i = .int .i64 j ∧ Below w.heap.size w wr) (fun i _ => L2 - (intOf i).toNat)
      case atStart => exact ⟨0, Nat.zero_le _, rfl, HB0.out⟩
      case round =>
        clear HB0
        rename World => Z
        obtain ⟨j, hj, rfl, hnx⟩ := hrel
        by_cases hlt2 : j < L2
        · obtain ⟨gw, ow0, r, s, sy, sx, t, l, b, q, rfl, wn⟩ := RB.out j hlt2
          have C4 := c4_keep HC4.out hnx
          have WX := HWX.out.below hnx
          have WN := wn.keep hnx
          have ij : (j : Int) < (L2 : Nat) := by omega
          have ij0 : (0 : Int) ≤ (j : Int) := by omega
          have HC := hid1 C4
          have HW := hid1 WX
          have HN := hid1 WN
          have HB := hid1 hnx
          obtain ⟨d0, d1, d2, d3⟩ := C4
          have lg := lt_of_cell d0
          clear WX WN hnx wn
          have hfo := follows
          go_upto_region 9 with fail
          go_cut [7] from 30 to 41 (fun s7 wx => ∃ G bm, s7 = .pointer (some ⟨bm, 0, none⟩) ∧ Qa wx bm G h v c n N g (o0 + k * 4) xo xc gw (ow0 + j * 8) r s sy sx t l b q ∧ Below Z.heap.size Z wx)
          case first =>
            as_aux_lemma =>
              go_region_held3 (fun Y => Y.cell? ⟨g, o0 + k * 4, none⟩ = some (.int .i64 h) ∧ Y.cell? ⟨g, o0 + k * 4 + 1, none⟩ = some (.int .i64 v) ∧ Y.cell? ⟨g, o0 + k * 4 + 2, none⟩ = some (.int .i64 c) ∧ Y.cell? ⟨g, o0 + k * 4 + 3, none⟩ = some (.slice xo n xc))
                (((try dsimp only); (with_reducible refine c4_keep (W := Z) HC.out ?_); repeat (first | (with_reducible exact Below.refl _ _) | (with_reducible assumption) | (with_reducible refine Below.drew ?_) | (with_reducible refine bl_alloc ?_ _) | (with_reducible refine bl_set ?_ (Nat.le_refl _) _))))
                ((go_at_call 28; refine (roomy_any n N xo xc _ hn (HW.out.below (by repeat (first | (with_reducible exact Below.refl _ _) | (with_reducible refine Below.drew ?_) | (with_reducible refine bl_alloc ?_ _))))).mono ?_; rintro e y1 ⟨G, rfl, hG, hrow, hb⟩; have HRW := hid1 hrow; have HBB := hid1 hb; have by1 : Below Z.heap.size Z y1 := (by first | exact bl_step (Below.refl _ _).drew hb | exact bl_step (bl_alloc (Below.refl _ _) _).drew hb); have zG := hG; (try (have VR := keepr HBB.out (cu_new Z 0 0 0 none 0 0 26).drew; have v0 := cf0 VR; have v1 := cf1 VR; have v2 := cf2 VR; have v3 := cf3 VR; have f0 := VR.frozen 0; have f1 := VR.frozen 1; have f2 := VR.frozen 2; have f3 := VR.frozen 3; have HVR := hid1 VR; clear VR)); clear hrow hb hG))
              all_goals (refine kmeet_of (by assumption) ?_; go_meet)
              · have zG' : Z.heap.size ≤ G := zG
                have BB := bl_alloc by1 (.cells #[.int .i64 h, .int .i64 v, .int .i64 c, .slice (some ⟨G, 0, none⟩) n (n + 66)] 26)
                exact ⟨G, y1.heap.size, rfl, ⟨cu_new _ _ _ _ _ _ _ _, HRW.out.alloc _, c4_keep HC.out BB, HW.out.below BB, HN.out.keep BB⟩, BB⟩
              · have zG' : Z.heap.size + 1 ≤ G := by simpa using zG
                have BB := bl_set (bl_set (bl_set (bl_set by1 (Nat.le_refl _) (o := 0) (.int .i64 h)) (Nat.le_refl _) (o := 1) (.int .i64 v)) (Nat.le_refl _) (o := 2) (.int .i64 c)) (Nat.le_refl _) (o := 3) (.slice (some ⟨G, 0, none⟩) n (n + 66))
                have bt : But Z.heap.size y1 ((((y1.setCell ⟨Z.heap.size, 0, none⟩ (.int .i64 h)).setCell ⟨Z.heap.size, 1, none⟩ (.int .i64 v)).setCell ⟨Z.heap.size, 2, none⟩ (.int .i64 c)).setCell ⟨Z.heap.size, 3, none⟩ (.slice (some ⟨G, 0, none⟩) n (n + 66))) := ((((But.refl _ y1).set _).set _).set _).set _
                exact ⟨G, Z.heap.size, rfl, ⟨cf_set HVR.out _ _ _ _ _ _, bt.row (by omega) HRW.out, c4_keep HC.out BB, HW.out.below BB, HN.out.keep BB⟩, BB⟩
          case rest =>
            obtain ⟨G, bm, rfl, QM, Bc⟩ := hcut
            rename World => Z1
            replace HB := hid1 (bl_step HB.out Bc)
            clear Bc HC HW HN lg d0 d1 d2 d3
            have hM30 := aM_le h v c n N r s sy sx t l b q
            have HX := hid1 (fun G W r' => max_fn h v c (some ⟨G, 0, none⟩) n (n + 66) N r s sy sx t l b q W (Nat.le_add_right _ _) (by omega) r')
            have HN := hid1 (fun G W r' => min_fn h v c (some ⟨G, 0, none⟩) n (n + 66) N r s sy sx t l b q W (Nat.le_add_right _ _) (by omega) r')
            have HRX := hid1 (fun W r' => rmax_fn h v c xo n xc N r s sy sx t l b q W r')
            have HRN := hid1 (fun W r' => rmin_fn h v c xo n xc N r s sy sx t l b q W r')
            generalize aH h v c n N r s sy sx t l b q = h' at *
            generalize aV h v c n N r s sy sx t l b q = v' at *
            generalize aC h v c n N r s sy sx t l b q = c' at *
            generalize aM h v c n N r s sy sx t l b q = M at *
            generalize aX h v c n N r s sy sx t l b q false = X1 at *
            generalize aX h v c n N r s sy sx t l b q true = X2 at *
            generalize poE h v c n N r s sy sx t l b q = E at *
            have M63 : M ≤ 9223372036854775807 := by omega
            have HQM := hid1 QM
            clear QM
            go_upto_region 10 with fail
            go_cut [8, 9] from 42 to 50 (fun s8 s9 wx => ∃ bb bo, s8 = .pointer (some ⟨bb, 0, none⟩) ∧ s9 = .int .i64 E ∧ wx.rowIs bb 26 4 (cf h' v' c' bo M M) ∧ Wr wx bo M X1 ∧ Below Z1.heap.size Z1 wx)
            case first =>
              as_aux_lemma =>
                go_region_held3 (fun Y => (Y.cell? ⟨bm, 0, none⟩ = some (.int .i64 h) ∧ Y.cell? ⟨bm, 1, none⟩ = some (.int .i64 v) ∧ Y.cell? ⟨bm, 2, none⟩ = some (.int .i64 c) ∧ Y.cell? ⟨bm, 3, none⟩ = some (.slice (some ⟨G, 0, none⟩) n (n + 66))) ∧ (Y.cell? ⟨gw, ow0 + j * 8, none⟩ = some (.int .i64 r) ∧ Y.cell? ⟨gw, ow0 + j * 8 + 1, none⟩ = some (.int .i64 s) ∧ Y.cell? ⟨gw, ow0 + j * 8 + 2, none⟩ = some (.int .i64 sy) ∧ Y.cell? ⟨gw, ow0 + j * 8 + 3, none⟩ = some (.int .i64 sx) ∧ Y.cell? ⟨gw, ow0 + j * 8 + 4, none⟩ = some (.int .i64 t) ∧ Y.cell? ⟨gw, ow0 + j * 8 + 5, none⟩ = some (.int .i64 l) ∧ Y.cell? ⟨gw, ow0 + j * 8 + 6, none⟩ = some (.int .i64 b) ∧ Y.cell? ⟨gw, ow0 + j * 8 + 7, none⟩ = some (.int .i64 q)))
                  (((try dsimp only); (with_reducible refine Qa.kpM (W := Z1) HQM.out ?_); repeat (first | (with_reducible exact Below.refl _ _) | (with_reducible assumption) | (with_reducible refine Below.drew ?_) | (with_reducible refine bl_alloc ?_ _) | (with_reducible refine bl_set ?_ (Nat.le_refl _) _))))
                  ((go_at_call 12; refine (HX.out G _ ((HQM.out.keep (by repeat (first | (with_reducible exact Below.refl _ _) | (with_reducible refine Below.drew ?_) | (with_reducible refine bl_alloc ?_ _)))).rg |> fun z => rm_wr z HQM.out.wx.1)).mono ?_; rintro e y1 ⟨bo, rfl, nw', hb⟩; have HBB := hid1 hb; have by1 : Below Z1.heap.size Z1 y1 := (by first | exact bl_step (Below.refl _ _).drew hb | exact bl_step (bl_alloc (Below.refl _ _) _).drew hb); have NW := hid1 nw'; (try (have VR := keepr HBB.out (cu_new Z1 0 0 0 none 0 0 26).drew; have v0 := cf0 VR; have v1 := cf1 VR; have v2 := cf2 VR; have v3 := cf3 VR; have f0 := VR.frozen 0; have f1 := VR.frozen 1; have f2 := VR.frozen 2; have f3 := VR.frozen 3; have HVR := hid1 VR; clear VR)); clear hb nw'))
                all_goals (refine kmeet_of (by assumption) ?_; go_meet)
                · exact ⟨y1.heap.size, bo, rfl, rfl, ans_a NW.out by1⟩
                · exact ⟨Z1.heap.size, bo, rfl, rfl, ans_b (z := Z1.heap.size + 1) HVR.out (Nat.lt_succ_self _) (by have := NW.out; unfold Nw at this; simpa using this) by1 (Nat.le_refl _)⟩
            case rest =>
              obtain ⟨ab, ao, rfl, rfl, ar, aw, Bc⟩ := hcut
              rename World => Z2
              replace HB := hid1 (bl_step HB.out Bc)
              replace HQM := hid1 (HQM.out.keep Bc)
              have Har := hid1 ar
              have Haw := hid1 aw
              clear Bc ar aw
              go_upto_region 11 with fail
              go_cut [10, 11] from 51 to 62 (fun s8 s9 wx => ∃ bb bo, s8 = .pointer (some ⟨bb, 0, none⟩) ∧ s9 = .int .i64 E ∧ wx.rowIs bb 26 4 (cf h' v' c' bo M M) ∧ Wr wx bo M X1 ∧ Below Z2.heap.size Z2 wx)
              case first =>
                as_aux_lemma =>
                  go_region_held3 (fun Y => (Y.cell? ⟨g, o0 + k * 4, none⟩ = some (.int .i64 h) ∧ Y.cell? ⟨g, o0 + k * 4 + 1, none⟩ = some (.int .i64 v) ∧ Y.cell? ⟨g, o0 + k * 4 + 2, none⟩ = some (.int .i64 c) ∧ Y.cell? ⟨g, o0 + k * 4 + 3, none⟩ = some (.slice xo n xc)) ∧ (Y.cell? ⟨gw, ow0 + j * 8, none⟩ = some (.int .i64 r) ∧ Y.cell? ⟨gw, ow0 + j * 8 + 1, none⟩ = some (.int .i64 s) ∧ Y.cell? ⟨gw, ow0 + j * 8 + 2, none⟩ = some (.int .i64 sy) ∧ Y.cell? ⟨gw, ow0 + j * 8 + 3, none⟩ = some (.int .i64 sx) ∧ Y.cell? ⟨gw, ow0 + j * 8 + 4, none⟩ = some (.int .i64 t) ∧ Y.cell? ⟨gw, ow0 + j * 8 + 5, none⟩ = some (.int .i64 l) ∧ Y.cell? ⟨gw, ow0 + j * 8 + 6, none⟩ = some (.int .i64 b) ∧ Y.cell? ⟨gw, ow0 + j * 8 + 7, none⟩ = some (.int .i64 q)))
                    (((try dsimp only); (with_reducible refine Qa.kpC (W := Z2) HQM.out ?_); repeat (first | (with_reducible exact Below.refl _ _) | (with_reducible assumption) | (with_reducible refine Below.drew ?_) | (with_reducible refine bl_alloc ?_ _) | (with_reducible refine bl_set ?_ (Nat.le_refl _) _))))
                    ((go_at_call 29; refine (HRX.out _ ((HQM.out.keep (by repeat (first | (with_reducible exact Below.refl _ _) | (with_reducible refine Below.drew ?_) | (with_reducible refine bl_alloc ?_ _)))).wx)).mono ?_; rintro e y1 ⟨bo, rfl, nw', hb⟩; have HBB := hid1 hb; have by1 : Below Z2.heap.size Z2 y1 := (by first | exact bl_step (Below.refl _ _).drew hb | exact bl_step (bl_alloc (Below.refl _ _) _).drew hb); have NW := hid1 nw'; (try (have VR := keepr HBB.out (cu_new Z2 0 0 0 none 0 0 26).drew; have v0 := cf0 VR; have v1 := cf1 VR; have v2 := cf2 VR; have v3 := cf3 VR; have f0 := VR.frozen 0; have f1 := VR.frozen 1; have f2 := VR.frozen 2; have f3 := VR.frozen 3; have HVR := hid1 VR; clear VR)); clear hb nw'))
                  all_goals (refine kmeet_of (by assumption) ?_; go_meet)
                  · exact ⟨y1.heap.size, bo, rfl, rfl, ans_a NW.out by1⟩
                  · exact ⟨Z2.heap.size, bo, rfl, rfl, ans_b (z := Z2.heap.size + 1) HVR.out (Nat.lt_succ_self _) (by have := NW.out; unfold Nw at this; simpa using this) by1 (Nat.le_refl _)⟩
              case rest =>
                obtain ⟨bb, bo, rfl, rfl, br, bw, Bc⟩ := hcut
                rename World => Z3
                replace HB := hid1 (bl_step HB.out Bc)
                replace HQM := hid1 (HQM.out.keep Bc)
                replace Har := hid1 (keepr Bc Har.out)
                replace Haw := hid1 (Haw.out.below Bc)
                have Hbr := hid1 br
                have Hbw := hid1 bw
                clear Bc br bw
                go_upto_region 12 with fail
                go_cut [12, 13] from 63 to 71 (fun s8 s9 wx => ∃ bb bo, s8 = .pointer (some ⟨bb, 0, none⟩) ∧ s9 = .int .i64 E ∧ wx.rowIs bb 26 4 (cf h' v' c' bo M M) ∧ Wr wx bo M X2 ∧ Below Z3.heap.size Z3 wx)
                case first =>
                  as_aux_lemma =>
                    go_region_held3 (fun Y => (Y.cell? ⟨bm, 0, none⟩ = some (.int .i64 h) ∧ Y.cell? ⟨bm, 1, none⟩ = some (.int .i64 v) ∧ Y.cell? ⟨bm, 2, none⟩ = some (.int .i64 c) ∧ Y.cell? ⟨bm, 3, none⟩ = some (.slice (some ⟨G, 0, none⟩) n (n + 66))) ∧ (Y.cell? ⟨gw, ow0 + j * 8, none⟩ = some (.int .i64 r) ∧ Y.cell? ⟨gw, ow0 + j * 8 + 1, none⟩ = some (.int .i64 s) ∧ Y.cell? ⟨gw, ow0 + j * 8 + 2, none⟩ = some (.int .i64 sy) ∧ Y.cell? ⟨gw, ow0 + j * 8 + 3, none⟩ = some (.int .i64 sx) ∧ Y.cell? ⟨gw, ow0 + j * 8 + 4, none⟩ = some (.int .i64 t) ∧ Y.cell? ⟨gw, ow0 + j * 8 + 5, none⟩ = some (.int .i64 l) ∧ Y.cell? ⟨gw, ow0 + j * 8 + 6, none⟩ = some (.int .i64 b) ∧ Y.cell? ⟨gw, ow0 + j * 8 + 7, none⟩ = some (.int .i64 q)))
                      (((try dsimp only); (with_reducible refine Qa.kpM (W := Z3) HQM.out ?_); repeat (first | (with_reducible exact Below.refl _ _) | (with_reducible assumption) | (with_reducible refine Below.drew ?_) | (with_reducible refine bl_alloc ?_ _) | (with_reducible refine bl_set ?_ (Nat.le_refl _) _))))
                      ((go_at_call 13; refine (HN.out G _ ((HQM.out.keep (by repeat (first | (with_reducible exact Below.refl _ _) | (with_reducible refine Below.drew ?_) | (with_reducible refine bl_alloc ?_ _)))).rg |> fun z => rm_wr z HQM.out.wx.1)).mono ?_; rintro e y1 ⟨bo, rfl, nw', hb⟩; have HBB := hid1 hb; have by1 : Below Z3.heap.size Z3 y1 := (by first | exact bl_step (Below.refl _ _).drew hb | exact bl_step (bl_alloc (Below.refl _ _) _).drew hb); have NW := hid1 nw'; (try (have VR := keepr HBB.out (cu_new Z3 0 0 0 none 0 0 26).drew; have v0 := cf0 VR; have v1 := cf1 VR; have v2 := cf2 VR; have v3 := cf3 VR; have f0 := VR.frozen 0; have f1 := VR.frozen 1; have f2 := VR.frozen 2; have f3 := VR.frozen 3; have HVR := hid1 VR; clear VR)); clear hb nw'))
                    all_goals (refine kmeet_of (by assumption) ?_; go_meet)
                    · exact ⟨y1.heap.size, bo, rfl, rfl, ans_a NW.out by1⟩
                    · exact ⟨Z3.heap.size, bo, rfl, rfl, ans_b (z := Z3.heap.size + 1) HVR.out (Nat.lt_succ_self _) (by have := NW.out; unfold Nw at this; simpa using this) by1 (Nat.le_refl _)⟩
                case rest =>
                  obtain ⟨mb, mo, rfl, rfl, mr, mw, Bc⟩ := hcut
                  rename World => Z4
                  replace HB := hid1 (bl_step HB.out Bc)
                  replace HQM := hid1 (HQM.out.keep Bc)
                  replace Har := hid1 (keepr Bc Har.out)
                  replace Haw := hid1 (Haw.out.below Bc)
                  replace Hbr := hid1 (keepr Bc Hbr.out)
                  replace Hbw := hid1 (Hbw.out.below Bc)
                  have Hmr := hid1 mr
                  have Hmw := hid1 mw
                  clear Bc mr mw
                  go_upto_region 13 with fail
                  go_cut [14, 15] from 72 to 83 (fun s8 s9 wx => ∃ bb bo, s8 = .pointer (some ⟨bb, 0, none⟩) ∧ s9 = .int .i64 E ∧ wx.rowIs bb 26 4 (cf h' v' c' bo M M) ∧ Wr wx bo M X2 ∧ Below Z4.heap.size Z4 wx)
                  case first =>
                    as_aux_lemma =>
                      go_region_held3 (fun Y => (Y.cell? ⟨g, o0 + k * 4, none⟩ = some (.int .i64 h) ∧ Y.cell? ⟨g, o0 + k * 4 + 1, none⟩ = some (.int .i64 v) ∧ Y.cell? ⟨g, o0 + k * 4 + 2, none⟩ = some (.int .i64 c) ∧ Y.cell? ⟨g, o0 + k * 4 + 3, none⟩ = some (.slice xo n xc)) ∧ (Y.cell? ⟨gw, ow0 + j * 8, none⟩ = some (.int .i64 r) ∧ Y.cell? ⟨gw, ow0 + j * 8 + 1, none⟩ = some (.int .i64 s) ∧ Y.cell? ⟨gw, ow0 + j * 8 + 2, none⟩ = some (.int .i64 sy) ∧ Y.cell? ⟨gw, ow0 + j * 8 + 3, none⟩ = some (.int .i64 sx) ∧ Y.cell? ⟨gw, ow0 + j * 8 + 4, none⟩ = some (.int .i64 t) ∧ Y.cell? ⟨gw, ow0 + j * 8 + 5, none⟩ = some (.int .i64 l) ∧ Y.cell? ⟨gw, ow0 + j * 8 + 6, none⟩ = some (.int .i64 b) ∧ Y.cell? ⟨gw, ow0 + j * 8 + 7, none⟩ = some (.int .i64 q)))
                        (((try dsimp only); (with_reducible refine Qa.kpC (W := Z4) HQM.out ?_); repeat (first | (with_reducible exact Below.refl _ _) | (with_reducible assumption) | (with_reducible refine Below.drew ?_) | (with_reducible refine bl_alloc ?_ _) | (with_reducible refine bl_set ?_ (Nat.le_refl _) _))))
                        ((go_at_call 30; refine (HRN.out _ ((HQM.out.keep (by repeat (first | (with_reducible exact Below.refl _ _) | (with_reducible refine Below.drew ?_) | (with_reducible refine bl_alloc ?_ _)))).wx)).mono ?_; rintro e y1 ⟨bo, rfl, nw', hb⟩; have HBB := hid1 hb; have by1 : Below Z4.heap.size Z4 y1 := (by first | exact bl_step (Below.refl _ _).drew hb | exact bl_step (bl_alloc (Below.refl _ _) _).drew hb); have NW := hid1 nw'; (try (have VR := keepr HBB.out (cu_new Z4 0 0 0 none 0 0 26).drew; have v0 := cf0 VR; have v1 := cf1 VR; have v2 := cf2 VR; have v3 := cf3 VR; have f0 := VR.frozen 0; have f1 := VR.frozen 1; have f2 := VR.frozen 2; have f3 := VR.frozen 3; have HVR := hid1 VR; clear VR)); clear hb nw'))
                      all_goals (refine kmeet_of (by assumption) ?_; go_meet)
                      · exact ⟨y1.heap.size, bo, rfl, rfl, ans_a NW.out by1⟩
                      · exact ⟨Z4.heap.size, bo, rfl, rfl, ans_b (z := Z4.heap.size + 1) HVR.out (Nat.lt_succ_self _) (by have := NW.out; unfold Nw at this; simpa using this) by1 (Nat.le_refl _)⟩
                  case rest =>
                    obtain ⟨pb, po, rfl, rfl, pr, pw, Bc⟩ := hcut
                    rename World => Z5
                    replace HB := hid1 (bl_step HB.out Bc)
                    replace HQM := hid1 (HQM.out.keep Bc)
                    replace Har := hid1 (keepr Bc Har.out)
                    replace Haw := hid1 (Haw.out.below Bc)
                    replace Hbr := hid1 (keepr Bc Hbr.out)
                    replace Hbw := hid1 (Hbw.out.below Bc)
                    replace Hmr := hid1 (keepr Bc Hmr.out)
                    replace Hmw := hid1 (Hmw.out.below Bc)
                    have Hpr := hid1 pr
                    have Hpw := hid1 pw
                    clear Bc pr pw
                    go_upto_region 14 with fail
                    go_region_held3 (fun Y => (Y.cell? ⟨ab, 0, none⟩ = some (.int .i64 h') ∧ Y.cell? ⟨ab, 1, none⟩ = some (.int .i64 v') ∧ Y.cell? ⟨ab, 2, none⟩ = some (.int .i64 c') ∧ Y.cell? ⟨ab, 3, none⟩ = some (.slice ao M M)) ∧ (Y.cell? ⟨bb, 0, none⟩ = some (.int .i64 h') ∧ Y.cell? ⟨bb, 1, none⟩ = some (.int .i64 v') ∧ Y.cell? ⟨bb, 2, none⟩ = some (.int .i64 c') ∧ Y.cell? ⟨bb, 3, none⟩ = some (.slice bo M M)) ∧ (Y.cell? ⟨mb, 0, none⟩ = some (.int .i64 h') ∧ Y.cell? ⟨mb, 1, none⟩ = some (.int .i64 v') ∧ Y.cell? ⟨mb, 2, none⟩ = some (.int .i64 c') ∧ Y.cell? ⟨mb, 3, none⟩ = some (.slice mo M M)) ∧ (Y.cell? ⟨pb, 0, none⟩ = some (.int .i64 h') ∧ Y.cell? ⟨pb, 1, none⟩ = some (.int .i64 v') ∧ Y.cell? ⟨pb, 2, none⟩ = some (.int .i64 c') ∧ Y.cell? ⟨pb, 3, none⟩ = some (.slice po M M)) ∧ Y.cell? ⟨bm, 3, none⟩ = some (.slice (some ⟨G, 0, none⟩) n (n + 66)) ∧ Y.cell? ⟨g, o0 + k * 4 + 3, none⟩ = some (.slice xo n xc))
                      (((try dsimp only); (with_reducible refine kpZ (W := Z5) HQM.out Har.out Hbr.out Hmr.out Hpr.out ?_); repeat (first | (with_reducible exact Below.refl _ _) | (with_reducible assumption) | (with_reducible refine Below.drew ?_))))
                      (first
                        | (have tst := by2; go_at_call 24; refine (kept_true n N G xo xc _ hn (keepr by2 HQM.out.rg) (HQM.out.wx.below by2)).mono ?_; rintro e y3 ⟨rfl, hb3⟩; have by3 : Below Z5.heap.size Z5 y3 := bl_step by2 hb3; clear hb3 tst)
                        | (have tst := by1; go_at_call 14; refine (cubes_same h' v' c' M X2 mo po M M _ M63 (Hmw.out.below by1) (Hpw.out.below by1)).mono ?_; rintro e y2 ⟨rfl, hb2⟩; have by2 : Below Z5.heap.size Z5 y2 := bl_step by1 hb2; clear hb2 tst)
                        | (go_at_call 14; refine (cubes_same h' v' c' M X1 ao bo M M _ M63 (Haw.out.below (Below.refl _ _).drew) (Hbw.out.below (Below.refl _ _).drew)).mono ?_; rintro e y1 ⟨rfl, hb1⟩; have by1 : Below Z5.heap.size Z5 y1 := bl_step (Below.refl _ _).drew hb1; clear hb1))
                    go_wp2_with fail
                    exact ⟨⟨j + 1, by omega, by go_num, bl_step HB.out by3⟩, by simp [intOf]; omega⟩
        · obtain rfl : j = L2 := by omega
          go_wp2_with fail
          exact ⟨⟨k + 1, by omega, by go_num, hnx⟩, by simp [intOf]; omega⟩
    · obtain rfl : k = L := by omega
      go_wp2_with fail
      go_ret
      exact ⟨rfl, hnx⟩
end Go.Proofs.Ytlghmojjcfjibaa
namespace Go.Proofs.Ytlghmojjcfjibaa
open Go.ChangeShapes Go.WideShapes Go.ChangeAt Go.RowKit

set_option maxRecDepth 100000 in
theorem poolAll_lifted (os : Os) (started : os.Started) (H : Type) (enc : TypeId × Value → H) :
    ReturnsInHanded {} Try.checked os 7 .any (Rows.poolAllSpec.pre6 enc Try.prog Try.f7 Rows.poolAllRow.domain false) (Rows.poolAllSpec.post enc Try.prog Try.f7 false true false false) := by
  refine returnsInHanded_of_change_sized (C := Try.checked) own started (by kernel_rfl) Try.func7
    (ChangeSpec.witness6 (enc := enc) (C := Try.checked) false ⟨#[], #[.slice none 0 0, .slice none 0 0], []⟩ 8 (by kernel_rfl) (by kernel_rfl) (by kernel_rfl) (by kernel_rfl)) ?_
  intro W base args ds gs before hval0 hW hcnd hsz _
  have hval : ∀ (j : Nat) t v, Try.f7.params[j]? = some t → args[j]? = some v → Value.okWide Try.prog W .any base t v := hval0
  have hW' := hW
  obtain ⟨p, q, hA0, hV, rfl, hfz, hnd⟩ := hW
  have hA : DataW.TrodAll enc Try.prog W 0 (fun _ => true) true Try.f7.params.toList args.toList ds p := hA0
  rw [Try.params7] at hA hval hsz
  obtain ⟨v0, vs0, d0, ds0, p0, q0, hargs, rfl, rfl, h0, r0⟩ := trodAll_cons hA
  obtain ⟨v1, vs1, d1, ds1, p1, q1, rfl, rfl, rfl, h1, r1⟩ := trodAll_cons r0
  obtain ⟨rfl, rfl, rfl⟩ := trodAll_nil r1
  obtain rfl : args = #[v0, v1] := by cases args; simp_all
  obtain ⟨rfl, rfl⟩ := trodVars_none hV
  have lt0 : ∀ x ∈ p0, x.block < W.heap.size := by obtain ⟨m, hm⟩ := h0; exact DataW.trod_lt m _ _ _ hm
  have k0 := h0
  have lt1 : ∀ x ∈ p1, x.block < W.heap.size := by obtain ⟨m, hm⟩ := h1; exact DataW.trod_lt m _ _ _ hm
  have k1 := h1
  obtain ⟨ao0, m0, c0, rfl, hm0, f0⟩ := open_cubess (hval 0 50 v0 rfl rfl) h0 (fun n hn => by have := List.all_eq_true.1 hsz _ (DataW.weights_mem_each (j := 0) (t := 50) (d := d0) rfl rfl n hn); simpa using this)
  obtain ⟨ao1, m1, c1, rfl, hm1, f1⟩ := open_wins (hval 1 68 v1 rfl rfl) h1
  clear hA0 hval0
  refine (poolAll_any ao0 m0 c0 ao1 m1 c1 W hm0 hm1 f0 f1).mono fun e W' ⟨he, bel⟩ => ?_
  subst he
  exact ⟨_, rfl, _, _, _, [], _, [], hW', trodAll_mk1 (shut_bool Try.underlying4 _), (trodAll_cons_mk (Below.trod laidOut (by kernel_rfl) (of_decide_eq_true (by kernel_rfl)) k0 bel lt0) (trodAll_cons_mk (Below.trod laidOut (by kernel_rfl) (of_decide_eq_true (by kernel_rfl)) k1 bel lt1) trodAll_mk0)), rfl, bel.frame _, fun h => by cases h⟩

theorem poolAll_holds : Rows.PoolAllSaid :=
  OpenClaim.holds_of_wide 7 Try.f7 rfl rfl rfl rfl rfl rfl rfl ⟨rfl, rfl, rfl, rfl, rfl⟩ rfl rfl rfl rfl rfl (by kernel_rfl) Try.func7 (by kernel_rfl)
    (of_decide_eq_true (by kernel_rfl)) (by unfold Func.isWrapper; first | (rw [if_pos (by decide +kernel)]; kernel_rfl) | (rw [if_neg (by decide +kernel)]; exact ⟨rfl, rfl⟩))
    (fun os started H enc _ => poolAll_lifted os started H enc)
#print axioms poolAll_holds
end Go.Proofs.Ytlghmojjcfjibaa
