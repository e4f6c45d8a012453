import Derived.Test.YtlghmojjcfjibaaQCPoolScript
/- THE DOCUMENT'S OWN Max AND Min; all four as functions of what is asked. -/
namespace Go.Proofs.Ytlghmojjcfjibaa
open Go.RowKit Go.Shelf

set_option maxHeartbeats 3200000 in
set_option maxRecDepth 100000 in
theorem rmax_bad (h v c : Int) (ao : Option Addr) (m cap N : Nat) (r s sy sx t l b q : Int) (w : World) (rd : Wr w ao m N) (hE : poE h v c m N r s sy sx t l b q ≠ 0) :
    Calls Try.prog 29 #[cuv h v c ao m cap, Sg.win r s sy sx t l b q] w fun e w' => e = .returned (.tuple #[cuv 0 0 0 none 0 0, .int .i64 (poE h v c m N r s sy sx t l b q)]) ∧ Below w.heap.size w w' := by
  have HG := hid1 (fun W r' => rpooled_bad false h v c ao m cap N r s sy sx t l b q W r' hE)
  clear hE
  generalize poE h v c m N r s sy sx t l b q = EE at *
  have HST := hid1 (pooled_start w h v c ao m cap r s sy sx t l b q)
  have RD := hid1 rd
  clear rd
  go_enter Try.func29, Try.ntmps29
  go_wp2_with fail
  refine gen_calls (fun W => W.heap.size = w.heap.size + 3 ∧ Below w.heap.size w W ∧ W.rowIs w.heap.size 26 4 (cf h v c ao m cap) ∧ Sg.Wn W (w.heap.size + 1) 0 r s sy sx t l b q ∧ W.rowIs (w.heap.size + 2) 26 4 (cf 0 0 0 none 0 0)) (by obtain ⟨X, rfl, z⟩ := HST.out; exact z) ?_
  rintro W ⟨z0, B0, b0, b1, b2⟩
  refine (HG.out W (RD.out.below B0)).mono ?_
  rintro e w1 ⟨rfl, hb⟩
  replace b2 := keepr hb b2
  have B1 := bl_step B0 hb
  clear hb B0 b0 b1
  have f0 := b2.frozen 0
  have f1 := b2.frozen 1
  have f2 := b2.frozen 2
  have f3 := b2.frozen 3
  have d0 := cf0 b2
  have d1 := cf1 b2
  have d2 := cf2 b2
  have d3 := cf3 b2
  have u := cf_set b2 0 0 0 none 0 0
  have u0 := cf0 u
  have u1 := cf1 u
  have u2 := cf2 u
  have u3 := cf3 u
  clear u
  go_wp2_with fail
  exact bodyPost_ret (v := .tuple #[cuv 0 0 0 none 0 0, .int .i64 EE]) (by simp [results, Try.results29, go_sem, u0, u1, u2, u3]) rfl ⟨rfl, bl_set (bl_set (bl_set (bl_set B1 (by omega) _) (by omega) _) (by omega) _) (by omega) _⟩
set_option maxHeartbeats 3200000 in
set_option maxRecDepth 100000 in
theorem rmax_ok (H V C R S y x g o m cap N OH OW M : Nat) (w : World) (pg : Pg H V C R S y x m N) (eH : oS H R y = OH) (eW : oS V S x = OW) (eM : OH * OW * nw C = M) (rd : Wr w (some ⟨g, o, none⟩) m N) :
    Calls Try.prog 29 #[cuv H V C (some ⟨g, o, none⟩) m cap, Sg.win R S y x 0 0 0 0] w fun e w' => ∃ G, e = .returned (.tuple #[cuv OH OW C (some ⟨G, 0, none⟩) M M, .int .i64 0]) ∧ w.heap.size ≤ G ∧ w'.rowIs G 66 M (wf (poN false N V (nw C) R S y x OW (OH * OW))) ∧ Below w.heap.size w w' := by
  have HG := hid1 (fun W r' => rpooled_ok false H V C R S y x g o m cap N OH OW M W pg eH eW eM r')
  clear pg eH eW eM
  generalize poN false N V (nw C) R S y x OW (OH * OW) = X at *
  have HST := hid1 (pooled_start w H V C (some ⟨g, o, none⟩) m cap R S y x 0 0 0 0)
  have RD := hid1 rd
  clear rd
  go_enter Try.func29, Try.ntmps29
  go_wp2_with fail
  refine gen_calls (fun W => W.heap.size = w.heap.size + 3 ∧ Below w.heap.size w W ∧ W.rowIs w.heap.size 26 4 (cf H V C (some ⟨g, o, none⟩) m cap) ∧ Sg.Wn W (w.heap.size + 1) 0 R S y x 0 0 0 0 ∧ W.rowIs (w.heap.size + 2) 26 4 (cf 0 0 0 none 0 0)) (by obtain ⟨X, rfl, z⟩ := HST.out; exact z) ?_
  rintro W ⟨z0, B0, b0, b1, b2⟩
  refine (HG.out W (RD.out.below B0)).mono ?_
  rintro e w1 ⟨G, rfl, hG, row, hb⟩
  replace b2 := keepr hb b2
  have B1 := bl_step B0 hb
  clear hb B0 b0 b1
  have f0 := b2.frozen 0
  have f1 := b2.frozen 1
  have f2 := b2.frozen 2
  have f3 := b2.frozen 3
  have d0 := cf0 b2
  have d1 := cf1 b2
  have d2 := cf2 b2
  have d3 := cf3 b2
  have PE := hid1 (pool_end (h := OH) (v := OW) (c := C) b2 row hG (And.intro (Nat.le_add_right _ _) (by omega)) B1)
  clear b2 row
  go_wp2_with fail
  obtain ⟨q, hG', qr, qB⟩ := PE.out
  have u0 := cf0 q
  have u1 := cf1 q
  have u2 := cf2 q
  have u3 := cf3 q
  exact bodyPost_ret (v := .tuple #[cuv OH OW C (some ⟨G, 0, none⟩) M M, .int .i64 0]) (by simp [results, Try.results29, go_sem, u0, u1, u2, u3]) rfl ⟨G, rfl, hG', qr, qB⟩
set_option maxHeartbeats 3200000 in
set_option maxRecDepth 100000 in
theorem rmin_bad (h v c : Int) (ao : Option Addr) (m cap N : Nat) (r s sy sx t l b q : Int) (w : World) (rd : Wr w ao m N) (hE : poE h v c m N r s sy sx t l b q ≠ 0) :
    Calls Try.prog 30 #[cuv h v c ao m cap, Sg.win r s sy sx t l b q] w fun e w' => e = .returned (.tuple #[cuv 0 0 0 none 0 0, .int .i64 (poE h v c m N r s sy sx t l b q)]) ∧ Below w.heap.size w w' := by
  have HG := hid1 (fun W r' => rpooled_bad true h v c ao m cap N r s sy sx t l b q W r' hE)
  clear hE
  generalize poE h v c m N r s sy sx t l b q = EE at *
  have HST := hid1 (pooled_start w h v c ao m cap r s sy sx t l b q)
  have RD := hid1 rd
  clear rd
  go_enter Try.func30, Try.ntmps30
  go_wp2_with fail
  refine gen_calls (fun W => W.heap.size = w.heap.size + 3 ∧ Below w.heap.size w W ∧ W.rowIs w.heap.size 26 4 (cf h v c ao m cap) ∧ Sg.Wn W (w.heap.size + 1) 0 r s sy sx t l b q ∧ W.rowIs (w.heap.size + 2) 26 4 (cf 0 0 0 none 0 0)) (by obtain ⟨X, rfl, z⟩ := HST.out; exact z) ?_
  rintro W ⟨z0, B0, b0, b1, b2⟩
  refine (HG.out W (RD.out.below B0)).mono ?_
  rintro e w1 ⟨rfl, hb⟩
  replace b2 := keepr hb b2
  have B1 := bl_step B0 hb
  clear hb B0 b0 b1
  have f0 := b2.frozen 0
  have f1 := b2.frozen 1
  have f2 := b2.frozen 2
  have f3 := b2.frozen 3
  have d0 := cf0 b2
  have d1 := cf1 b2
  have d2 := cf2 b2
  have d3 := cf3 b2
  have u := cf_set b2 0 0 0 none 0 0
  have u0 := cf0 u
  have u1 := cf1 u
  have u2 := cf2 u
  have u3 := cf3 u
  clear u
  go_wp2_with fail
  exact bodyPost_ret (v := .tuple #[cuv 0 0 0 none 0 0, .int .i64 EE]) (by simp [results, Try.results30, go_sem, u0, u1, u2, u3]) rfl ⟨rfl, bl_set (bl_set (bl_set (bl_set B1 (by omega) _) (by omega) _) (by omega) _) (by omega) _⟩
set_option maxHeartbeats 3200000 in
set_option maxRecDepth 100000 in
theorem rmin_ok (H V C R S y x g o m cap N OH OW M : Nat) (w : World) (pg : Pg H V C R S y x m N) (eH : oS H R y = OH) (eW : oS V S x = OW) (eM : OH * OW * nw C = M) (rd : Wr w (some ⟨g, o, none⟩) m N) :
    Calls Try.prog 30 #[cuv H V C (some ⟨g, o, none⟩) m cap, Sg.win R S y x 0 0 0 0] w fun e w' => ∃ G, e = .returned (.tuple #[cuv OH OW C (some ⟨G, 0, none⟩) M M, .int .i64 0]) ∧ w.heap.size ≤ G ∧ w'.rowIs G 66 M (wf (poN true N V (nw C) R S y x OW (OH * OW))) ∧ Below w.heap.size w w' := by
  have HG := hid1 (fun W r' => rpooled_ok true H V C R S y x g o m cap N OH OW M W pg eH eW eM r')
  clear pg eH eW eM
  generalize poN true N V (nw C) R S y x OW (OH * OW) = X at *
  have HST := hid1 (pooled_start w H V C (some ⟨g, o, none⟩) m cap R S y x 0 0 0 0)
  have RD := hid1 rd
  clear rd
  go_enter Try.func30, Try.ntmps30
  go_wp2_with fail
  refine gen_calls (fun W => W.heap.size = w.heap.size + 3 ∧ Below w.heap.size w W ∧ W.rowIs w.heap.size 26 4 (cf H V C (some ⟨g, o, none⟩) m cap) ∧ Sg.Wn W (w.heap.size + 1) 0 R S y x 0 0 0 0 ∧ W.rowIs (w.heap.size + 2) 26 4 (cf 0 0 0 none 0 0)) (by obtain ⟨X, rfl, z⟩ := HST.out; exact z) ?_
  rintro W ⟨z0, B0, b0, b1, b2⟩
  refine (HG.out W (RD.out.below B0)).mono ?_
  rintro e w1 ⟨G, rfl, hG, row, hb⟩
  replace b2 := keepr hb b2
  have B1 := bl_step B0 hb
  clear hb B0 b0 b1
  have f0 := b2.frozen 0
  have f1 := b2.frozen 1
  have f2 := b2.frozen 2
  have f3 := b2.frozen 3
  have d0 := cf0 b2
  have d1 := cf1 b2
  have d2 := cf2 b2
  have d3 := cf3 b2
  have PE := hid1 (pool_end (h := OH) (v := OW) (c := C) b2 row hG (And.intro (Nat.le_add_right _ _) (by omega)) B1)
  clear b2 row
  go_wp2_with fail
  obtain ⟨q, hG', qr, qB⟩ := PE.out
  have u0 := cf0 q
  have u1 := cf1 q
  have u2 := cf2 q
  have u3 := cf3 q
  exact bodyPost_ret (v := .tuple #[cuv OH OW C (some ⟨G, 0, none⟩) M M, .int .i64 0]) (by simp [results, Try.results30, go_sem, u0, u1, u2, u3]) rfl ⟨G, rfl, hG', qr, qB⟩

/-- A list of words in new memory, or none. -/
def Nw (w w' : World) (bo : Option Addr) (M X : Nat) : Prop := (bo = none ∧ M = 0 ∧ X = 0) ∨ ∃ G, bo = some ⟨G, 0, none⟩ ∧ w.heap.size ≤ G ∧ w'.rowIs G 66 M (wf X) ∧ X < 2 ^ (64 * M)
theorem Nw.wr {w w' : World} {bo : Option Addr} {M X : Nat} (h : Nw w w' bo M X) : Wr w' bo M X := by
  rcases h with ⟨rfl, rfl, rfl⟩ | ⟨G, rfl, _, row, hX⟩
  · exact Wr.nil _
  · exact Wr.row row hX
section
variable (h v c : Int) (m N : Nat) (r s sy sx t l b q : Int)
def aH : Int := if poE h v c m N r s sy sx t l b q = 0 then (oS h.toNat r.toNat sy.toNat : Nat) else 0
def aV : Int := if poE h v c m N r s sy sx t l b q = 0 then (oS v.toNat s.toNat sx.toNat : Nat) else 0
def aC : Int := if poE h v c m N r s sy sx t l b q = 0 then c else 0
def aM : Nat := if poE h v c m N r s sy sx t l b q = 0 then oS h.toNat r.toNat sy.toNat * oS v.toNat s.toNat sx.toNat * nw c.toNat else 0
def aX (al : Bool) : Nat := if poE h v c m N r s sy sx t l b q = 0 then poN al N v.toNat (nw c.toNat) r.toNat s.toNat sy.toNat sx.toNat (oS v.toNat s.toNat sx.toNat) (oS h.toNat r.toNat sy.toNat * oS v.toNat s.toNat sx.toNat) else 0
end
theorem aM_le (h v c : Int) (m N : Nat) (r s sy sx t l b q : Int) : aM h v c m N r s sy sx t l b q ≤ 1073741824 := by
  unfold aM
  by_cases k : poE h v c m N r s sy sx t l b q = 0
  · rw [if_pos k]
    obtain ⟨H, V, C, R, S, y, x, rfl, rfl, rfl, rfl, rfl, rfl, rfl, rfl, rfl, rfl, rfl, pg⟩ := poE_zero k
    simp only [Int.toNat_natCast]
    exact (wo_bd (Nat.le_trans (oS_le pg.fH pg.hR.1) pg.hH.2) (Nat.le_trans (oS_le pg.fV pg.hS.1) pg.hV.2) pg.hC.2).2
  · rw [if_neg k]; omega
theorem max_fn (h v c : Int) (ao : Option Addr) (m cap N : Nat) (r s sy sx t l b q : Int) (w : World) (hmc : m ≤ cap) (hcap : cap ≤ 9223372036854775807) (rd : Wr w ao m N) :
    Calls Try.prog 12 #[cuv h v c ao m cap, Sg.win r s sy sx t l b q] w fun e w' => ∃ bo, e = .returned (.tuple #[cuv (aH h v c m N r s sy sx t l b q) (aV h v c m N r s sy sx t l b q) (aC h v c m N r s sy sx t l b q) bo (aM h v c m N r s sy sx t l b q) (aM h v c m N r s sy sx t l b q), .int .i64 (poE h v c m N r s sy sx t l b q)]) ∧ Nw w w' bo (aM h v c m N r s sy sx t l b q) (aX h v c m N r s sy sx t l b q false) ∧ Below w.heap.size w w' := by
  unfold aH aV aC aM aX
  by_cases k : poE h v c m N r s sy sx t l b q = 0
  · simp only [if_pos k]
    rw [k]
    obtain ⟨H, V, C, R, S, y, x, rfl, rfl, rfl, rfl, rfl, rfl, rfl, rfl, rfl, rfl, rfl, pg⟩ := poE_zero k
    obtain ⟨g, o, rfl⟩ := rd.some pg.qb.pos
    simp only [Int.toNat_natCast]
    refine (max_ok H V C R S y x g o m cap N _ _ _ w pg rfl rfl rfl hmc hcap rd).mono ?_
    rintro e w1 ⟨G, rfl, hG, row, hb⟩
    exact ⟨_, rfl, .inr ⟨G, rfl, hG, row, poN_lt _ _ _ _ _ _ _ _ _ _⟩, hb⟩
  · simp only [if_neg k]
    refine (max_bad h v c ao m cap N r s sy sx t l b q w hmc hcap rd k).mono ?_
    rintro e w1 ⟨rfl, hb⟩
    exact ⟨_, rfl, .inl ⟨rfl, rfl, rfl⟩, hb⟩
theorem min_fn (h v c : Int) (ao : Option Addr) (m cap N : Nat) (r s sy sx t l b q : Int) (w : World) (hmc : m ≤ cap) (hcap : cap ≤ 9223372036854775807) (rd : Wr w ao m N) :
    Calls Try.prog 13 #[cuv h v c ao m cap, Sg.win r s sy sx t l b q] w fun e w' => ∃ bo, e = .returned (.tuple #[cuv (aH h v c m N r s sy sx t l b q) (aV h v c m N r s sy sx t l b q) (aC h v c m N r s sy sx t l b q) bo (aM h v c m N r s sy sx t l b q) (aM h v c m N r s sy sx t l b q), .int .i64 (poE h v c m N r s sy sx t l b q)]) ∧ Nw w w' bo (aM h v c m N r s sy sx t l b q) (aX h v c m N r s sy sx t l b q true) ∧ Below w.heap.size w w' := by
  unfold aH aV aC aM aX
  by_cases k : poE h v c m N r s sy sx t l b q = 0
  · simp only [if_pos k]
    rw [k]
    obtain ⟨H, V, C, R, S, y, x, rfl, rfl, rfl, rfl, rfl, rfl, rfl, rfl, rfl, rfl, rfl, pg⟩ := poE_zero k
    obtain ⟨g, o, rfl⟩ := rd.some pg.qb.pos
    simp only [Int.toNat_natCast]
    refine (min_ok H V C R S y x g o m cap N _ _ _ w pg rfl rfl rfl hmc hcap rd).mono ?_
    rintro e w1 ⟨G, rfl, hG, row, hb⟩
    exact ⟨_, rfl, .inr ⟨G, rfl, hG, row, poN_lt _ _ _ _ _ _ _ _ _ _⟩, hb⟩
  · simp only [if_neg k]
    refine (min_bad h v c ao m cap N r s sy sx t l b q w hmc hcap rd k).mono ?_
    rintro e w1 ⟨rfl, hb⟩
    exact ⟨_, rfl, .inl ⟨rfl, rfl, rfl⟩, hb⟩
theorem rmax_fn (h v c : Int) (ao : Option Addr) (m cap N : Nat) (r s sy sx t l b q : Int) (w : World) (rd : Wr w ao m N) :
    Calls Try.prog 29 #[cuv h v c ao m cap, Sg.win r s sy sx t l b q] w fun e w' => ∃ bo, e = .returned (.tuple #[cuv (aH h v c m N r s sy sx t l b q) (aV h v c m N r s sy sx t l b q) (aC h v c m N r s sy sx t l b q) bo (aM h v c m N r s sy sx t l b q) (aM h v c m N r s sy sx t l b q), .int .i64 (poE h v c m N r s sy sx t l b q)]) ∧ Nw w w' bo (aM h v c m N r s sy sx t l b q) (aX h v c m N r s sy sx t l b q false) ∧ Below w.heap.size w w' := by
  unfold aH aV aC aM aX
  by_cases k : poE h v c m N r s sy sx t l b q = 0
  · simp only [if_pos k]
    rw [k]
    obtain ⟨H, V, C, R, S, y, x, rfl, rfl, rfl, rfl, rfl, rfl, rfl, rfl, rfl, rfl, rfl, pg⟩ := poE_zero k
    obtain ⟨g, o, rfl⟩ := rd.some pg.qb.pos
    simp only [Int.toNat_natCast]
    refine (rmax_ok H V C R S y x g o m cap N _ _ _ w pg rfl rfl rfl rd).mono ?_
    rintro e w1 ⟨G, rfl, hG, row, hb⟩
    exact ⟨_, rfl, .inr ⟨G, rfl, hG, row, poN_lt _ _ _ _ _ _ _ _ _ _⟩, hb⟩
  · simp only [if_neg k]
    refine (rmax_bad h v c ao m cap N r s sy sx t l b q w rd k).mono ?_
    rintro e w1 ⟨rfl, hb⟩
    exact ⟨_, rfl, .inl ⟨rfl, rfl, rfl⟩, hb⟩
theorem rmin_fn (h v c : Int) (ao : Option Addr) (m cap N : Nat) (r s sy sx t l b q : Int) (w : World) (rd : Wr w ao m N) :
    Calls Try.prog 30 #[cuv h v c ao m cap, Sg.win r s sy sx t l b q] w fun e w' => ∃ bo, e = .returned (.tuple #[cuv (aH h v c m N r s sy sx t l b q) (aV h v c m N r s sy sx t l b q) (aC h v c m N r s sy sx t l b q) bo (aM h v c m N r s sy sx t l b q) (aM h v c m N r s sy sx t l b q), .int .i64 (poE h v c m N r s sy sx t l b q)]) ∧ Nw w w' bo (aM h v c m N r s sy sx t l b q) (aX h v c m N r s sy sx t l b q true) ∧ Below w.heap.size w w' := by
  unfold aH aV aC aM aX
  by_cases k : poE h v c m N r s sy sx t l b q = 0
  · simp only [if_pos k]
    rw [k]
    obtain ⟨H, V, C, R, S, y, x, rfl, rfl, rfl, rfl, rfl, rfl, rfl, rfl, rfl, rfl, rfl, pg⟩ := poE_zero k
    obtain ⟨g, o, rfl⟩ := rd.some pg.qb.pos
    simp only [Int.toNat_natCast]
    refine (rmin_ok H V C R S y x g o m cap N _ _ _ w pg rfl rfl rfl rd).mono ?_
    rintro e w1 ⟨G, rfl, hG, row, hb⟩
    exact ⟨_, rfl, .inr ⟨G, rfl, hG, row, poN_lt _ _ _ _ _ _ _ _ _ _⟩, hb⟩
  · simp only [if_neg k]
    refine (rmin_bad h v c ao m cap N r s sy sx t l b q w rd k).mono ?_
    rintro e w1 ⟨rfl, hb⟩
    exact ⟨_, rfl, .inl ⟨rfl, rfl, rfl⟩, hb⟩
end Go.Proofs.Ytlghmojjcfjibaa
