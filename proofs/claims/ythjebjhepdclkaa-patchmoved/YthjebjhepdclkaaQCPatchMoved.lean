import Derived.Test.YthjebjhepdclkaaQBPatchMoved
import Derived.Test.YthjebjhepdclkaaKW8
import Derived.Test.YthjebjhepdclkaaDW1
import Derived.Deep.CutBlock
import Derived.BigQuiet
/- PatchMoved: words of patches, place by place: plain mathematics. -/
namespace Go.Proofs.Ythjebjhepdclkaa
open Go.RowKit Go.Shelf

theorem lt_placeQ {w q k P : Nat} (hq : q < P) (hk : k < w) : q * w + k < P * w := by
  have := Nat.mul_le_mul_right w (show q + 1 ≤ P from hq)
  rw [Nat.succ_mul] at this
  omega
theorem at_splitQ {w q k : Nat} (hk : k < w) : (q * w + k) / w = q ∧ (q * w + k) % w = k := by
  have hw : 0 < w := by omega
  constructor
  · rw [Nat.mul_comm, Nat.mul_add_div hw, Nat.div_eq_of_lt hk, Nat.add_zero]
  · rw [Nat.mul_comm, Nat.mul_add_mod, Nat.mod_eq_of_lt hk]
/-- A patch's signs, a word of a place. -/
theorem seS_wd {H V C N S R sy sx T L Bq xs p k j : Nat} (hxs : xs < 2 ^ (64 * nw C)) (hk : k < R * S) (hj : j < nw C) : wd (seS H V C N S R sy sx T L Bq xs p) (k * nw C + j) = wd (plP H V (nw C) N (((p / Bq : Nat) : Int) * sy - T) (((p % Bq : Nat) : Int) * sx - L) S xs k) j := by
  obtain ⟨e1, e2⟩ := at_splitQ (q := k) hj
  unfold seS
  rw [js_wd (fun i _ => by unfold plP; split; exact pl_lt _ _ _; exact hxs) (lt_placeQ hk hj), e1, e2]
/-- .. and its mask's. -/
theorem seM_wd {H V C S R sy sx T L Bq xm p k j : Nat} (hxm : xm < 2 ^ (64 * nw C)) (hk : k < R * S) (hj : j < nw C) : wd (seM H V C S R sy sx T L Bq xm p) (k * nw C + j) = wd (mkP H V C (((p / Bq : Nat) : Int) * sy - T) (((p % Bq : Nat) : Int) * sx - L) S xm k) j := by
  obtain ⟨e1, e2⟩ := at_splitQ (q := k) hj
  unfold seM
  rw [js_wd (fun i _ => by unfold mkP; split; exact ful_words C; exact hxm) (lt_placeQ hk hj), e1, e2]
/-- What a window of one place sees. -/
theorem see_one {H V C N p : Nat} (hV : 0 < V) (hp : p < H * V) (j : Nat) (hj : j < nw C) : wd (seS H V C N 1 1 1 1 0 0 V 0 p) j = wd (pl N (nw C) p) j := by
  have h := seS_wd (H := H) (V := V) (C := C) (N := N) (S := 1) (R := 1) (sy := 1) (sx := 1) (T := 0) (L := 0) (Bq := V) (xs := 0) (p := p) (k := 0) (j := j) (Nat.two_pow_pos _) (by omega) hj
  rw [Nat.zero_mul, Nat.zero_add] at h
  rw [h]
  have hy : p / V < H := Nat.div_lt_of_lt_mul (by rw [Nat.mul_comm]; exact hp)
  have hx : p % V < V := Nat.mod_lt _ hV
  have hdm := Nat.div_add_mod p V
  unfold plP
  have hin : Ins H V (((p / V : Nat) : Int) * ((1 : Nat) : Int) - ((0 : Nat) : Int)) (((p % V : Nat) : Int) * ((1 : Nat) : Int) - ((0 : Nat) : Int)) 1 0 := by
    unfold Ins
    obtain ⟨y, ey⟩ : ∃ y, p / V = y := ⟨_, rfl⟩
    obtain ⟨x, ex⟩ : ∃ x, p % V = x := ⟨_, rfl⟩
    rw [ey] at hy ⊢
    rw [ex] at hx ⊢
    have z1 : (0 / 1 : Nat) = 0 := rfl
    have z2 : (0 % 1 : Nat) = 0 := rfl
    rw [z1, z2]
    omega
  rw [if_pos hin]
  have e : ixP V (((p / V : Nat) : Int) * ((1 : Nat) : Int) - ((0 : Nat) : Int)) (((p % V : Nat) : Int) * ((1 : Nat) : Int) - ((0 : Nat) : Int)) 1 0 = p := by
    unfold ixP
    rw [show (((p / V : Nat) : Int) * ((1 : Nat) : Int) - ((0 : Nat) : Int) + ((0 / 1 : Nat) : Int)) = ((p / V : Nat) : Int) by simp, show (((p % V : Nat) : Int) * ((1 : Nat) : Int) - ((0 : Nat) : Int) + ((0 % 1 : Nat) : Int)) = ((p % V : Nat) : Int) by simp]
    rw [Int.toNat_natCast, Int.toNat_natCast, Nat.mul_comm]
    exact hdm
  rw [e]
end Go.Proofs.Ythjebjhepdclkaa
/- PACKAGE cube: Turn, At. -/
namespace Go.Proofs.Ythjebjhepdclkaa
open Go.RowKit Go.Shelf

theorem Wr.rw {w : World} {ao : Option Addr} {m N : Nat} (h : Wr w ao m N) (hm : m ≤ 9223372036854775807) (n : Int) (cap : Nat) : Rw w ⟨n, ao, m, cap, N⟩ := ⟨h.1, hm, h.2⟩
/-- The two blocks that Turn lays first. -/
theorem turn_start (w : World) (n : Int) (ao : Option Addr) (m cap : Nat) : ∃ W, (w.alloc (.cells #[.int .i64 n, .slice ao m cap] 41)).alloc (.cells #[.int .i64 0, .int .i64 0, .int .i64 0, .slice none 0 0] 33) = W ∧
    W.heap.size = w.heap.size + 2 ∧ Below w.heap.size w W ∧ W.rowIs w.heap.size 41 2 (sf n ao m cap) ∧ W.rowIs (w.heap.size + 1) 33 4 (cf 0 0 0 none 0 0) := by
  refine ⟨_, rfl, by simp, bl_alloc (bl_alloc (Below.refl _ _) _) _, (row_new w _ _ _ _ _).alloc _, ?_⟩
  have := cu_new (w.alloc (.cells #[.int .i64 n, .slice ao m cap] 41)) 0 0 0 none 0 0 33
  rwa [World.size_alloc] at this
theorem wr_put {w : World} {G m N b : Nat} (h : Wr w (some ⟨G, 0, none⟩) m N) (hb : G ≠ b) (k : Nat) (u : Value) : Wr (w.setCell ⟨b, k, none⟩ u) (some ⟨G, 0, none⟩) m N :=
  ⟨h.1, fun j hj => by
    obtain ⟨g, o, e, c⟩ := h.2 j hj
    cases e
    refine ⟨G, 0, rfl, ?_⟩
    exact (((But.refl b w).set u).cell hb c)⟩
theorem own_put {w : World} {base e G m K b : Nat} {xs : List Value} (h : w.ownsRow base e 1 (.slice (some ⟨G, 0, none⟩) m K) m xs) (hb : G ≠ b) (k : Nat) (u : Value) : (w.setCell ⟨b, k, none⟩ u).ownsRow base e 1 (.slice (some ⟨G, 0, none⟩) m K) m xs :=
  by
  refine ⟨h.1, ?_⟩
  rcases h.2 with q | ⟨g, cap, cur, h1, h2, h3, h4⟩
  · exact .inl q
  · refine .inr ⟨g, cap, cur, h1, h2, ?_, h4⟩
    have e : G = g := by cases h1; rfl
    subst e
    exact (((But.refl b w).set (o := k) u).block G (Array.getElem?_eq_some_iff.1 h3).1 hb).trans h3
theorem own_base {w : World} {base base' e m : Nat} {v : Value} {xs : List Value} (h : w.ownsRow base e 1 v m xs) (hb : base' ≤ base) : w.ownsRow base' e 1 v m xs := by
  refine ⟨h.1, ?_⟩
  rcases h.2 with k | ⟨g, cap, cur, h1, h2, h3⟩
  · exact .inl k
  · exact .inr ⟨g, cap, cur, h1, Nat.le_trans hb h2, h3⟩
/-- What Turn tells of a row. -/
def tuE (n : Int) (m N : Nat) : Int := if chk n m N = 0 then (if n < 1 ∨ 4096 < n then 30 else 0) else chk n m N
end Go.Proofs.Ythjebjhepdclkaa
/- PACKAGE cube: At. -/
namespace Go.Proofs.Ythjebjhepdclkaa
open Go.RowKit Go.Shelf

/-- The two blocks that At lays first. -/
theorem at_start (w : World) (h v c : Int) (ao : Option Addr) (m cap : Nat) : ∃ W, (w.alloc (.cells #[.int .i64 h, .int .i64 v, .int .i64 c, .slice ao m cap] 33)).alloc (.cells #[.int .i64 0, .slice none 0 0] 41) = W ∧
    W.heap.size = w.heap.size + 2 ∧ Below w.heap.size w W ∧ W.rowIs w.heap.size 33 4 (cf h v c ao m cap) ∧ W.rowIs (w.heap.size + 1) 41 2 (sf 0 none 0 0) := by
  refine ⟨_, rfl, by simp, bl_alloc (bl_alloc (Below.refl _ _) _) _, (cu_new w _ _ _ _ _ _ _).alloc _, ?_⟩
  have := row_new (w.alloc (.cells #[.int .i64 h, .int .i64 v, .int .i64 c, .slice ao m cap] 33)) 0 none 0 0 41
  rwa [World.size_alloc] at this
/-- What At tells. -/
def atE (h v c y x : Int) (m N : Nat) : Int := if cuk h v c m N = 0 then Sg.ixE h v c y x 0 else cuk h v c m N
set_option maxHeartbeats 1600000 in
set_option maxRecDepth 100000 in
theorem at_bad (h v c y x : Int) (ao : Option Addr) (m cap N : Nat) (w : World) (hmc : m ≤ cap) (hcap : cap ≤ 9223372036854775807) (rd : Wr w ao m N) (k : atE h v c y x m N ≠ 0) :
    Calls Try.prog 8 #[cuv h v c ao m cap, .int .i64 y, .int .i64 x] w fun e w' => e = .returned (.tuple #[rv 0 none 0 0, .int .i64 (atE h v c y x m N)]) ∧ Below w.heap.size w w' := by
  obtain ⟨W, eW, z0, B0, q0, q1⟩ := at_start w h v c ao m cap
  have e0 := cf0 q0
  have e1 := cf1 q0
  have e2 := cf2 q0
  have e3 := cf3 q0
  have HC := hid1 (ccheck_any h v c ao m cap N W hmc hcap (rd.below B0))
  have HX := hid1 (Sg.index_any h v c y x 0)
  obtain ⟨E, hE⟩ : ∃ E, cuk h v c m N = E := ⟨_, rfl⟩
  obtain ⟨I, hI⟩ : ∃ I, Sg.ixE h v c y x 0 = I := ⟨_, rfl⟩
  obtain ⟨R, hR⟩ : ∃ R, atE h v c y x m N = R := ⟨_, rfl⟩
  have HR : Hid ((if E = 0 then I else E) = R) := by rw [← hE, ← hI]; exact hid1 hR
  rw [hR] at k ⊢
  rw [hE] at HC
  rw [hI] at HX
  generalize Sg.ixN h v c y x 0 = J at HX
  clear hE hR hI
  go_enter Try.func8, Try.ntmps8
  go_wp2_with fail
  refine HC.out.mono ?_
  rintro e w1 ⟨rfl, hb⟩
  clear e0 e1 e2 e3 eW
  replace q0 := keepr hb q0
  replace q1 := keepr hb q1
  have B1 := bl_step B0 hb
  have z1 := hb.size
  clear hb B0 HC
  by_cases k0 : E = 0
  · subst k0
    have HR1 := HR.out
    rw [if_pos rfl] at HR1
    subst HR1
    clear HR
    have e0 := cf0 q0
    have e1 := cf1 q0
    have e2 := cf2 q0
    go_wp2_with fail
    refine (HX.out w1).mono ?_
    rintro e w2 ⟨rfl, hb⟩
    replace q1 := keepr hb q1
    have B2 := bl_step B1 hb
    clear hb B1 q0 e0 e1 e2
    have d0 := sf_len q1
    have d1 := sf_ws q1
    have f0 := q1.frozen 0
    have f1 := q1.frozen 1
    go_wp2_with fail
    exact bodyPost_ret (v := .tuple #[rv 0 none 0 0, .int .i64 I]) (by simp [results, Try.results8, go_sem, d0, d1]) rfl ⟨rfl, bl_set (bl_set B2 (by omega) _) (by omega) _⟩
  · have HR1 := HR.out
    rw [if_neg k0] at HR1
    subst HR1
    clear HR HX
    have d0 := sf_len q1
    have d1 := sf_ws q1
    have f0 := q1.frozen 0
    have f1 := q1.frozen 1
    go_wp2_with fail
    exact bodyPost_ret (v := .tuple #[rv 0 none 0 0, .int .i64 E]) (by simp [results, Try.results8, go_sem, d0, d1]) rfl ⟨rfl, bl_set (bl_set B1 (by omega) _) (by omega) _⟩
set_option maxHeartbeats 1600000 in
set_option maxRecDepth 100000 in
theorem at_ok (H V C g o m cap N y x : Nat) (w : World) (hH : 1 ≤ H ∧ H ≤ 4096) (hV : 1 ≤ V ∧ V ≤ 4096) (hC : 1 ≤ C ∧ C ≤ 4096) (k0 : Sg.chk H V C = 0) (k : cuk H V C m N = 0) (hm : m = H * V * nw C) (hmc : m ≤ cap) (hcap : cap ≤ 9223372036854775807) (hy : y < H) (hx : x < V)
    (rd : Wr w (some ⟨g, o, none⟩) m N) (d : Nat) (hd : nw C = d) :
    Calls Try.prog 8 #[cuv H V C (some ⟨g, o, none⟩) m cap, .int .i64 y, .int .i64 x] w fun e w' => ∃ G K, e = .returned (.tuple #[rv C (some ⟨G, 0, none⟩) d K, .int .i64 0]) ∧ w.heap.size ≤ G ∧ d ≤ K ∧ K ≤ 9223372036854775807 ∧ w'.ownsRow w.heap.size 48 1 (.slice (some ⟨G, 0, none⟩) d K) d (wl (pl N d (y * V + x)) d) ∧ Wr w' (some ⟨G, 0, none⟩) d (pl N d (y * V + x)) ∧ Below w.heap.size w w' := by
  obtain ⟨W, eW, z0, B0, q0, q1⟩ := at_start w H V C (some ⟨g, o, none⟩) m cap
  have e0 := cf0 q0
  have e1 := cf1 q0
  have e2 := cf2 q0
  have e3 := cf3 q0
  have HC := hid1 (ccheck_any H V C (some ⟨g, o, none⟩) m cap N W hmc hcap (rd.below B0))
  rw [k] at HC
  have hi : y * V + x < H * V := by
    have : (y + 1) * V ≤ H * V := Nat.mul_le_mul_right _ hy
    rw [Nat.succ_mul] at this
    omega
  have HX := hid1 (Sg.index_in H V C y x 0 k0 ⟨⟨by omega, by omega⟩, ⟨by omega, by omega⟩, by omega, by omega⟩)
  have hP : H * V ≤ 16777216 := (wo_bd hH.2 hV.2 hC.2).1
  have hbI : (y * V + x + 1) * nw C ≤ m := by rw [hm]; exact Nat.mul_le_mul_right _ hi
  have HW := hid1 (fun w => wordsAt_any (H : Int) (V : Int) C g o m cap (y * V + x) w hC.1 hC.2 hmc hcap hbI (by omega))
  have ei : ((y : Int) * (V : Int) + (x : Int)) * (C : Int) + 0 = (((y * V + x) * C : Nat) : Int) := by push_cast; omega
  rw [ei] at HX
  have hd0 : 0 < nw C := by unfold nw; omega
  have hd64 : nw C ≤ 64 := by unfold nw; omega
  have hpl : ∀ w', Below w.heap.size w w' → Wr w' (some ⟨g, o + (y * V + x) * nw C, none⟩) (nw C) (pl N (nw C) (y * V + x)) := fun w' hb => (rd.below hb).place (by rw [← Nat.succ_mul]; exact hbI)
  have HPL := hid1 hpl
  rw [hd] at HW HPL hd0 hd64
  clear hpl hbI rd hm k k0 ei hd
  have hbi : y * V + x ≤ 16777216 := by omega
  obtain ⟨i, hii⟩ : ∃ i, y * V + x = i := ⟨_, rfl⟩
  rw [hii] at HX HW HPL hi hbi ⊢
  clear hii
  have hq : ((i * C : Nat) : Int) / (C : Int) = (i : Int) := by
    push_cast
    exact Int.mul_ediv_cancel _ (by omega)
  have hq' : ((i * C : Nat) : Int).tdiv (C : Int) = (i : Int) := by
    rw [Int.tdiv_eq_ediv_of_nonneg (by omega)]; exact hq
  have hbic : i * C ≤ 16777216 * 4096 := Nat.mul_le_mul hbi hC.2
  obtain ⟨u, hu⟩ : ∃ u, i * C = u := ⟨_, rfl⟩
  rw [hu] at hq hq' HX hbic
  clear hu
  have rq : IntKind.i64.wrap (i : Int) = (i : Int) := by rw [IntKind.wrap_i64]; omega
  have nC : ¬ (C : Int) = 0 := by omega
  have nC' : ¬ C = 0 := by omega
  go_enter Try.func8, Try.ntmps8
  go_wp2_with fail
  refine HC.out.mono ?_
  rintro e w1 ⟨rfl, hb⟩
  clear e0 e1 e2 e3 eW
  replace q0 := keepr hb q0
  replace q1 := keepr hb q1
  have B1 := bl_step B0 hb
  have z1 := hb.size
  clear hb B0 HC
  have e0 := cf0 q0
  have e1 := cf1 q0
  have e2 := cf2 q0
  go_wp2_with fail
  refine (HX.out w1).mono ?_
  rintro e w2 ⟨rfl, hb⟩
  replace q0 := keepr hb q0
  replace q1 := keepr hb q1
  have B2 := bl_step B1 hb
  have z2 := hb.size
  clear hb B1 e0 e1 e2 HX
  have e0 := cf0 q0
  have e1 := cf1 q0
  have e2 := cf2 q0
  have e3 := cf3 q0
  go_wp2_with fail
  refine still_tail 6 (by kernel_rfl) ?_
  simp only [List.take_succ_cons, List.take_zero, List.drop_succ_cons, List.drop_zero]
  repeat still_step
  refine wpStill_nil ?_
  go_wp2_with fail
  refine (HW.out _).mono ?_
  rintro e w3 ⟨rfl, hb⟩
  replace q0 := keepr hb q0.drew
  replace q1 := keepr hb q1.drew
  have B3 := bl_step B2.drew hb
  have z3 : w2.heap.size ≤ w3.heap.size := hb.size
  clear hb B2 e0 e1 e2 e3 HW
  have HCL := hid1 (fun w' (hb : Below w.heap.size w w') => clone_any g (o + i * d) d d (pl N d i) w' hd0 (by omega) (HPL.out w' hb))
  have e2 := cf2 q0
  have hfo := follows
  have H0 := hid1 q0
  have H1 := hid1 q1
  have HB := hid1 B3
  clear q0 q1 B3 HPL hq hq' rq
  go_wp2_with fail
  go_region_with ((go_at_call 26; refine (HCL.out _ HB.out.drew).mono ?_; rintro e w4 ⟨G, K, rfl, hG, hK, hK2, own, wr, hb2⟩; have v2 := keepc hb2 (cf2 H0.out.drew); have HQ := hid1 (keepr hb2 H1.out.drew); have d0 := sf_len HQ.out; have d1 := sf_ws HQ.out; have f0 := HQ.out.frozen 0; have f1 := HQ.out.frozen 1; have HB2 := hid1 (bl_step HB.out.drew hb2); have HO := hid1 own; have HW := hid1 wr; have HG := hid1 hG; clear own wr hb2 hG))
  all_goals go_wp2_with fail
  all_goals (
    have hc := rs_set HQ.out C (some ⟨G, 0, none⟩) d K
    have m0 := sf_len hc
    have m1 := sf_ws hc
    have zG : w3.heap.size ≤ G := HG.out
    refine bodyPost_ret (v := .tuple #[rv C (some ⟨G, 0, none⟩) d K, .int .i64 0]) (by simp [results, Try.results8, go_sem, m0, m1]) rfl ⟨G, K, rfl, by omega, hK, hK2, ?_, ?_, bl_set (bl_set HB2.out (by omega) _) (by omega) _⟩
    · exact own_base (own_put (own_put HO.out (by omega) 0 _) (by omega) 1 _) (show w.heap.size ≤ w3.heap.size by omega)
    · exact wr_put (wr_put HW.out (by omega) 0 _) (by omega) 1 _)
end Go.Proofs.Ythjebjhepdclkaa
/- PatchMoved: the innermost round. -/
namespace Go.Proofs.Ythjebjhepdclkaa
open Go.RowKit Go.Shelf

def regionOf (n : Nat) : Code → Option Code
  | .region id ops b => if id = n then some (.region id ops b) else none
  | .seq a b => match regionOf n a with
    | some c => some c
    | none => regionOf n b
  | .block _ c => regionOf n c
  | .scope c => regionOf n c
  | .loop c => regionOf n c
  | .cond _ a b => match regionOf n a with
    | some c => some c
    | none => regionOf n b
  | _ => none
def isReg (n : Nat) : Code → Bool
  | .region id _ _ => id == n
  | _ => false
def isBlk (n : Nat) : Code → Bool
  | .block id _ => id == n
  | _ => false
def fromP (p : Code → Bool) : Code → Option Code
  | .region id ops b => if p (.region id ops b) then some (.region id ops b) else none
  | .seq a b => if p a then some (.seq a b) else match fromP p a with
    | some c => some c
    | none => fromP p b
  | .block _ c => fromP p c
  | .scope c => fromP p c
  | .loop c => fromP p c
  | .cond _ a b => match fromP p a with
    | some c => some c
    | none => fromP p b
  | _ => none
theorem kgo {P : Program} {c : Code} {Q : Exit → Act → World → Prop} {K : Act → World → Prop} {a : Act} {w : World} (h : ∀ a w, c.wp P Q a w → K a w) (h2 : c.wp P Q a w) : K a w := h _ _ h2
def blockOf (n : Nat) : Code → Option Code
  | .seq a b => match blockOf n a with
    | some c => some c
    | none => blockOf n b
  | .block id c => if id = n then some (.block id c) else blockOf n c
  | .scope c => blockOf n c
  | .loop c => blockOf n c
  | .cond _ a b => match blockOf n a with
    | some c => some c
    | none => blockOf n b
  | _ => none
noncomputable def pmB7 : Code := (Try.f3.body.bind (blockOf 7)).getD .skip
noncomputable def pmB6 : Code := (Try.f3.body.bind (blockOf 6)).getD .skip
noncomputable def pmB4 : Code := (Try.f3.body.bind (blockOf 4)).getD .skip
noncomputable def pmB2 : Code := (Try.f3.body.bind (blockOf 2)).getD .skip
noncomputable def pmB3 : Code := (Try.f3.body.bind (blockOf 3)).getD .skip
end Go.Proofs.Ythjebjhepdclkaa
/- PatchMoved: the innermost round. -/
namespace Go.Proofs.Ythjebjhepdclkaa
open Go.RowKit Go.Shelf

attribute [local go_sem ↓] Go.wp_at_zero Go.wp_at_succ
set_option maxHeartbeats 12800000 in
set_option maxRecDepth 100000 in
theorem pm_t35 (u0 u1 u2 u3 u4 u5 u6 u7 u9 u10 u12 u13 u14 u15 u16 u18 u19 u20 u22 u23 u31 u32 u33 u34 u35 u36 u37 u38 u39 u40 u41 u42 u43 u44 u45 u46 u47 u48 u49 u50 u51 u52 u53 u54 u55 u56 u57 u58 u59 u60 u61 u62 u63 u64 u65 u66 u67 u68 u69 u70 u71 u72 u73 u74 u75 u76 u77 u78 u79 u80 u81 u82 u83 u84 u85 u86 u87 u88 u89 u90 u91 u92 u93 u94 u95 u96 u97 u98 u99 u100 u101 u102 u103 u104 u105 u106 u107 u108 u109 u110 u111 u112 u113 u114 u115 u116 u117 u118 u119 u120 u121 u122 u123 u124 u125 u126 u127 u128 u129 u130 u131 u132 u133 u134 u135 u136 u137 u138 u139 u140 u141 u142 u143 u144 u145 u146 u147 u148 u149 u150 u151 u152 u153 u154 u155 u156 u157 u158 u159 u160 u161 u162 u163 u164 u165 u166 u167 u168 u169 u170 u171 u172 u173 u174 u175 u176 u177 u178 u179 u180 u181 u182 u183 u184 u185 u186 u187 u188 u189 u190 u191 u192 u193 u194 u195 u196 u197 u198 u199 u200 u201 u202 u203 u204 u205 u206 u207 u208 u209 u210 u211 u212 u213 u214 u215 u216 u217 u218 u219 u220 u221 u222 u223 u224 u225 u226 u227 u228 u229 u230 u231 u232 u233 u234 u235 u236 u237 u238 u239 u240 u241 u242 u243 u244 u245 u246 u247 u248 u249 u250 u251 u252 u253 u254 u255 u256 u257 u258 u259 u260 u261 u262 u263 u264 u265 u266 u267 u268 u269 u270 u271 u272 u273 u274 u275 u276 u277 u278 u279 u280 u281 u282 u283 u284 u285 u286 u287 u288 u289 u290 u291 u292 u293 u294 u295 u296 u297 u298 u299 u300 u301 u302 u303 u304 u305 u306 u307 u308 u309 u310 u311 u312 u313 u314 u315 u316 u317 u318 u319 u320 u321 u322 u323 u324 u325 u326 u327 u328 u329 u330 u331 u332 u333 u334 u335 u336 u337 u338 u339 u340 u341 u342 u343 u344 u345 u346 u347 u348 u349 u350 u351 u352 u353 u354 u355 u356 u357 u358 u359 u360 u361 u362 u363 u364 u365 u366 u367 u368 u369 u370 u371 u372 u373 u374 u375 u376 u377 u378 u379 u380 u381 u382 u383 u384 u385 u386 u387 u388 u389 u390 u391 u392 u393 u394 u395 u396 u397 u398 u399 u400 u401 u402 u403 u404 u405 u406 u407 u408 u409 u410 u411 u412 u413 u414 u415 u416 u417 u418 u419 u420 u421 u422 u423 u424 u425 u426 u427 u428 u429 u430 u431 u432 u433 u434 u435 u436 u437 u438 u439 u440 u441 u442 u443 u444 u445 u446 u447 u448 u449 u450 u451 u452 u453 u454 u455 u456 u457 u458 u459 u460 u461 u462 u463 u464 u465 u466 u467 u468 u469 u470 u471 u472 u473 u474 u475 u476 u477 u478 u479 u480 u481 u482 u483 u484 u485 u486 u487 u488 u489 u490 u491 u492 u493 u494 u495 u496 u497 u498 u499 u500 u501 u502 u503 u504 u505 u506 : Value) (W : World) (bC g1 g2 g4 P M d i k jn jj : Nat) (cap1 cap2 cap4 HV : Nat) (A2 K2 P2 L2 A4 K4 P4 L4 : Nat) (F G : Nat) (A1 K1 V yy xx yv pp kd : Nat) (Q : Exit → Act → World → Prop)
    (hi : (i : Int) < (P : Int)) (hi0 : (0 : Int) ≤ (i : Int)) (hj : (jn : Int) < (M : Int)) (hj0 : (0 : Int) ≤ (jn : Int))
    (c1 : W.cell? ⟨g2, i * 4 + 1, none⟩ = some (.slice (some ⟨A2, 0, none⟩) M K2)) (c3 : W.cell? ⟨g2, i * 4 + 3, none⟩ = some (.slice (some ⟨P2, 0, none⟩) M L2)) (n1 : W.cell? ⟨g4, i * 4 + 1, none⟩ = some (.slice (some ⟨A4, 0, none⟩) M K4)) (n3 : W.cell? ⟨g4, i * 4 + 3, none⟩ = some (.slice (some ⟨P4, 0, none⟩) M L4))
    (w2 : W.cell? ⟨P2, jn, none⟩ = some (.int .u64 (F : Int))) (w1 : W.cell? ⟨A2, jn, none⟩ = some (.int .u64 (G : Int)))
    (n4 : W.cell? ⟨P4, jn, none⟩ = some (.int .u64 (F : Int))) (n2 : W.cell? ⟨A4, jn, none⟩ = some (.int .u64 (G : Int))) (o1 : W.cell? ⟨g1, pp * 4 + 1, none⟩ = some (.slice (some ⟨A1, 0, none⟩) d K1)) (ow : W.cell? ⟨A1, jj, none⟩ = some (.int .u64 (G : Int))) (k1 : W.cell? ⟨bC, 1, none⟩ = some (.int .i64 (V : Int)))
    (wyv : IntKind.i64.wrap ((yy : Int) * (V : Int)) = (yv : Int)) (wpp : IntKind.i64.wrap ((yv : Int) + (xx : Int)) = (pp : Int)) (wkd : IntKind.i64.wrap ((k : Int) * (d : Int)) = (kd : Int)) (wjj : IntKind.i64.wrap ((jn : Int) - (kd : Int)) = (jj : Int))
    (hp : (pp : Int) < (HV : Int)) (hp0 : (0 : Int) ≤ (pp : Int)) (hjj : (jj : Int) < (d : Int)) (hjj0 : (0 : Int) ≤ (jj : Int))
    (hQ : Hid (∀ (Y : World) (v31 v393 v394 v395 v396 v397 v398 v399 v400 v401 v402 v403 v404 v405 v406 v407 v408 v409 v410 v411 v412 v413 v414 v415 v416 v417 v418 v419 v420 v421 v422 v423 v424 v425 v426 v427 v428 v429 v430 v431 v432 v433 v434 v435 v436 v437 v438 v439 v440 v441 v442 v443 v444 v445 v446 v447 v448 v449 v450 v451 v452 v453 v454 v455 v456 v457 v458 v459 v460 v461 v462 v463 v464 v465 v466 v467 v468 v469 v470 v471 v472 v473 v474 v475 v476 v477 v478 v479 v480 v481 v482 v483 v484 v485 v486 v487 v488 v489 v490 v491 v492 v493 v494 v495 v496 v497 v498 v499 v500 v501 v502 v503 v504 v505 v506 : Value), Below W.heap.size W Y → Q .normal ⟨#[u0, u1, u2, u3, u4, u5, u6, u7, .pointer (some ⟨bC, 0, none⟩), u9, u10, .slice (some ⟨g1, 0, none⟩) HV cap1, u12, u13, u14, u15, u16, .slice (some ⟨g2, 0, none⟩) P cap2, u18, u19, u20, .slice (some ⟨g4, 0, none⟩) P cap4, u22, u23, .int .i64 (d : Int), .int .i64 (i : Int), .int .i64 (k : Int), .int .i64 (yy : Int), .int .i64 (xx : Int), .bool true, .int .i64 (jn : Int), v31, u32, u33, u34, u35, u36, u37, u38, u39, u40, u41, u42, u43, u44, u45, u46, u47, u48, u49, u50, u51, u52, u53, u54, u55, u56, u57, u58, u59, u60, u61, u62, u63, u64, u65, u66, u67, u68, u69, u70, u71, u72, u73, u74, u75, u76, u77, u78, u79, u80, u81, u82, u83, u84, u85, u86, u87, u88, u89, u90, u91, u92, u93, u94, u95, u96, u97, u98, u99, u100, u101, u102, u103, u104, u105, u106, u107, u108, u109, u110, u111, u112, u113, u114, u115, u116, u117, u118, u119, u120, u121, u122, u123, u124, u125, u126, u127, u128, u129, u130, u131, u132, u133, u134, u135, u136, u137, u138, u139, u140, u141, u142, u143, u144, u145, u146, u147, u148, u149, u150, u151, u152, u153, u154, u155, u156, u157, u158, u159, u160, u161, u162, u163, u164, u165, u166, u167, u168, u169, u170, u171, u172, u173, u174, u175, u176, u177, u178, u179, u180, u181, u182, u183, u184, u185, u186, u187, u188, u189, u190, u191, u192, u193, u194, u195, u196, u197, u198, u199, u200, u201, u202, u203, u204, u205, u206, u207, u208, u209, u210, u211, u212, u213, u214, u215, u216, u217, u218, u219, u220, u221, u222, u223, u224, u225, u226, u227, u228, u229, u230, u231, u232, u233, u234, u235, u236, u237, u238, u239, u240, u241, u242, u243, u244, u245, u246, u247, u248, u249, u250, u251, u252, u253, u254, u255, u256, u257, u258, u259, u260, u261, u262, u263, u264, u265, u266, u267, u268, u269, u270, u271, u272, u273, u274, u275, u276, u277, u278, u279, u280, u281, u282, u283, u284, u285, u286, u287, u288, u289, u290, u291, u292, u293, u294, u295, u296, u297, u298, u299, u300, u301, u302, u303, u304, u305, u306, u307, u308, u309, u310, u311, u312, u313, u314, u315, u316, u317, u318, u319, u320, u321, u322, u323, u324, u325, u326, u327, u328, u329, u330, u331, u332, u333, u334, u335, u336, u337, u338, u339, u340, u341, u342, u343, u344, u345, u346, u347, u348, u349, u350, u351, u352, u353, u354, u355, u356, u357, u358, u359, u360, u361, u362, u363, u364, u365, u366, u367, u368, u369, u370, u371, u372, u373, u374, u375, u376, u377, u378, u379, u380, u381, u382, u383, u384, u385, u386, u387, u388, u389, u390, u391, u392, v393, v394, v395, v396, v397, v398, v399, v400, v401, v402, v403, v404, v405, v406, v407, v408, v409, v410, v411, v412, v413, v414, v415, v416, v417, v418, v419, v420, v421, v422, v423, v424, v425, v426, v427, v428, v429, v430, v431, v432, v433, v434, v435, v436, v437, v438, v439, v440, v441, v442, v443, v444, v445, v446, v447, v448, v449, v450, v451, v452, v453, v454, v455, v456, v457, v458, v459, v460, v461, v462, v463, v464, v465, v466, v467, v468, v469, v470, v471, v472, v473, v474, v475, v476, v477, v478, v479, v480, v481, v482, v483, v484, v485, v486, v487, v488, v489, v490, v491, v492, v493, v494, v495, v496, v497, v498, v499, v500, v501, v502, v503, v504, v505, v506], []⟩ Y)) :
    Code.wp Try.prog pmB7 Q ⟨#[u0, u1, u2, u3, u4, u5, u6, u7, .pointer (some ⟨bC, 0, none⟩), u9, u10, .slice (some ⟨g1, 0, none⟩) HV cap1, u12, u13, u14, u15, u16, .slice (some ⟨g2, 0, none⟩) P cap2, u18, u19, u20, .slice (some ⟨g4, 0, none⟩) P cap4, u22, u23, .int .i64 (d : Int), .int .i64 (i : Int), .int .i64 (k : Int), .int .i64 (yy : Int), .int .i64 (xx : Int), .bool true, .int .i64 (jn : Int), u31, u32, u33, u34, u35, u36, u37, u38, u39, u40, u41, u42, u43, u44, u45, u46, u47, u48, u49, u50, u51, u52, u53, u54, u55, u56, u57, u58, u59, u60, u61, u62, u63, u64, u65, u66, u67, u68, u69, u70, u71, u72, u73, u74, u75, u76, u77, u78, u79, u80, u81, u82, u83, u84, u85, u86, u87, u88, u89, u90, u91, u92, u93, u94, u95, u96, u97, u98, u99, u100, u101, u102, u103, u104, u105, u106, u107, u108, u109, u110, u111, u112, u113, u114, u115, u116, u117, u118, u119, u120, u121, u122, u123, u124, u125, u126, u127, u128, u129, u130, u131, u132, u133, u134, u135, u136, u137, u138, u139, u140, u141, u142, u143, u144, u145, u146, u147, u148, u149, u150, u151, u152, u153, u154, u155, u156, u157, u158, u159, u160, u161, u162, u163, u164, u165, u166, u167, u168, u169, u170, u171, u172, u173, u174, u175, u176, u177, u178, u179, u180, u181, u182, u183, u184, u185, u186, u187, u188, u189, u190, u191, u192, u193, u194, u195, u196, u197, u198, u199, u200, u201, u202, u203, u204, u205, u206, u207, u208, u209, u210, u211, u212, u213, u214, u215, u216, u217, u218, u219, u220, u221, u222, u223, u224, u225, u226, u227, u228, u229, u230, u231, u232, u233, u234, u235, u236, u237, u238, u239, u240, u241, u242, u243, u244, u245, u246, u247, u248, u249, u250, u251, u252, u253, u254, u255, u256, u257, u258, u259, u260, u261, u262, u263, u264, u265, u266, u267, u268, u269, u270, u271, u272, u273, u274, u275, u276, u277, u278, u279, u280, u281, u282, u283, u284, u285, u286, u287, u288, u289, u290, u291, u292, u293, u294, u295, u296, u297, u298, u299, u300, u301, u302, u303, u304, u305, u306, u307, u308, u309, u310, u311, u312, u313, u314, u315, u316, u317, u318, u319, u320, u321, u322, u323, u324, u325, u326, u327, u328, u329, u330, u331, u332, u333, u334, u335, u336, u337, u338, u339, u340, u341, u342, u343, u344, u345, u346, u347, u348, u349, u350, u351, u352, u353, u354, u355, u356, u357, u358, u359, u360, u361, u362, u363, u364, u365, u366, u367, u368, u369, u370, u371, u372, u373, u374, u375, u376, u377, u378, u379, u380, u381, u382, u383, u384, u385, u386, u387, u388, u389, u390, u391, u392, u393, u394, u395, u396, u397, u398, u399, u400, u401, u402, u403, u404, u405, u406, u407, u408, u409, u410, u411, u412, u413, u414, u415, u416, u417, u418, u419, u420, u421, u422, u423, u424, u425, u426, u427, u428, u429, u430, u431, u432, u433, u434, u435, u436, u437, u438, u439, u440, u441, u442, u443, u444, u445, u446, u447, u448, u449, u450, u451, u452, u453, u454, u455, u456, u457, u458, u459, u460, u461, u462, u463, u464, u465, u466, u467, u468, u469, u470, u471, u472, u473, u474, u475, u476, u477, u478, u479, u480, u481, u482, u483, u484, u485, u486, u487, u488, u489, u490, u491, u492, u493, u494, u495, u496, u497, u498, u499, u500, u501, u502, u503, u504, u505, u506], []⟩ W := by
  conv => arg 2; whnf
  go_upto_region 36 with fail
  dsimp only [List.append]
  go_quiet (fail)
  go_wp2_with fail
  exact hQ.out _ _ _ _ _ _ _ _ _ _ _ _ _ _ _ _ _ _ _ _ _ _ _ _ _ _ _ _ _ _ _ _ _ _ _ _ _ _ _ _ _ _ _ _ _ _ _ _ _ _ _ _ _ _ _ _ _ _ _ _ _ _ _ _ _ _ _ _ _ _ _ _ _ _ _ _ _ _ _ _ _ _ _ _ _ _ _ _ _ _ _ _ _ _ _ _ _ _ _ _ _ _ _ _ _ _ _ _ _ _ _ _ _ _ _ _ (by repeat (first | (with_reducible exact Below.refl _ _) | (with_reducible refine Below.drew ?_) | (with_reducible refine bl_drewN ?_ _)))
end Go.Proofs.Ythjebjhepdclkaa
/- PatchMoved: the innermost round. -/
namespace Go.Proofs.Ythjebjhepdclkaa
open Go.RowKit Go.Shelf

attribute [local go_sem ↓] Go.wp_at_zero Go.wp_at_succ
set_option maxHeartbeats 12800000 in
set_option maxRecDepth 100000 in
theorem pm_f35 (u0 u1 u2 u3 u4 u5 u6 u7 u9 u10 u12 u13 u14 u15 u16 u18 u19 u20 u22 u23 u27 u28 u31 u32 u33 u34 u35 u36 u37 u38 u39 u40 u41 u42 u43 u44 u45 u46 u47 u48 u49 u50 u51 u52 u53 u54 u55 u56 u57 u58 u59 u60 u61 u62 u63 u64 u65 u66 u67 u68 u69 u70 u71 u72 u73 u74 u75 u76 u77 u78 u79 u80 u81 u82 u83 u84 u85 u86 u87 u88 u89 u90 u91 u92 u93 u94 u95 u96 u97 u98 u99 u100 u101 u102 u103 u104 u105 u106 u107 u108 u109 u110 u111 u112 u113 u114 u115 u116 u117 u118 u119 u120 u121 u122 u123 u124 u125 u126 u127 u128 u129 u130 u131 u132 u133 u134 u135 u136 u137 u138 u139 u140 u141 u142 u143 u144 u145 u146 u147 u148 u149 u150 u151 u152 u153 u154 u155 u156 u157 u158 u159 u160 u161 u162 u163 u164 u165 u166 u167 u168 u169 u170 u171 u172 u173 u174 u175 u176 u177 u178 u179 u180 u181 u182 u183 u184 u185 u186 u187 u188 u189 u190 u191 u192 u193 u194 u195 u196 u197 u198 u199 u200 u201 u202 u203 u204 u205 u206 u207 u208 u209 u210 u211 u212 u213 u214 u215 u216 u217 u218 u219 u220 u221 u222 u223 u224 u225 u226 u227 u228 u229 u230 u231 u232 u233 u234 u235 u236 u237 u238 u239 u240 u241 u242 u243 u244 u245 u246 u247 u248 u249 u250 u251 u252 u253 u254 u255 u256 u257 u258 u259 u260 u261 u262 u263 u264 u265 u266 u267 u268 u269 u270 u271 u272 u273 u274 u275 u276 u277 u278 u279 u280 u281 u282 u283 u284 u285 u286 u287 u288 u289 u290 u291 u292 u293 u294 u295 u296 u297 u298 u299 u300 u301 u302 u303 u304 u305 u306 u307 u308 u309 u310 u311 u312 u313 u314 u315 u316 u317 u318 u319 u320 u321 u322 u323 u324 u325 u326 u327 u328 u329 u330 u331 u332 u333 u334 u335 u336 u337 u338 u339 u340 u341 u342 u343 u344 u345 u346 u347 u348 u349 u350 u351 u352 u353 u354 u355 u356 u357 u358 u359 u360 u361 u362 u363 u364 u365 u366 u367 u368 u369 u370 u371 u372 u373 u374 u375 u376 u377 u378 u379 u380 u381 u382 u383 u384 u385 u386 u387 u388 u389 u390 u391 u392 u393 u394 u395 u396 u397 u398 u399 u400 u401 u402 u403 u404 u405 u406 u407 u408 u409 u410 u411 u412 u413 u414 u415 u416 u417 u418 u419 u420 u421 u422 u423 u424 u425 u426 u427 u428 u429 u430 u431 u432 u433 u434 u435 u436 u437 u438 u439 u440 u441 u442 u443 u444 u445 u446 u447 u448 u449 u450 u451 u452 u453 u454 u455 u456 u457 u458 u459 u460 u461 u462 u463 u464 u465 u466 u467 u468 u469 u470 u471 u472 u473 u474 u475 u476 u477 u478 u479 u480 u481 u482 u483 u484 u485 u486 u487 u488 u489 u490 u491 u492 u493 u494 u495 u496 u497 u498 u499 u500 u501 u502 u503 u504 u505 u506 : Value) (W : World) (bC g1 g2 g4 P M d i k jn : Nat) (cap1 cap2 cap4 HV : Nat) (A2 K2 P2 L2 A4 K4 P4 L4 : Nat) (F : Nat) (Q : Exit → Act → World → Prop)
    (hi : (i : Int) < (P : Int)) (hi0 : (0 : Int) ≤ (i : Int)) (hj : (jn : Int) < (M : Int)) (hj0 : (0 : Int) ≤ (jn : Int))
    (c1 : W.cell? ⟨g2, i * 4 + 1, none⟩ = some (.slice (some ⟨A2, 0, none⟩) M K2)) (c3 : W.cell? ⟨g2, i * 4 + 3, none⟩ = some (.slice (some ⟨P2, 0, none⟩) M L2)) (n1 : W.cell? ⟨g4, i * 4 + 1, none⟩ = some (.slice (some ⟨A4, 0, none⟩) M K4)) (n3 : W.cell? ⟨g4, i * 4 + 3, none⟩ = some (.slice (some ⟨P4, 0, none⟩) M L4))
    (w2 : W.cell? ⟨P2, jn, none⟩ = some (.int .u64 (F : Int))) (w1 : W.cell? ⟨A2, jn, none⟩ = some (.int .u64 (F : Int)))
    (n4 : W.cell? ⟨P4, jn, none⟩ = some (.int .u64 0)) (n2 : W.cell? ⟨A4, jn, none⟩ = some (.int .u64 0))
    (hQ : Hid (∀ (Y : World) (v31 v393 v394 v395 v396 v397 v398 v399 v400 v401 v402 v403 v404 v405 v406 v407 v408 v409 v410 v411 v412 v413 v414 v415 v416 v417 v418 v419 v420 v421 v422 v423 v424 v425 v426 v427 v428 v429 v430 v431 v432 v433 v434 v435 v436 v437 v438 v439 v440 v441 v442 v443 v444 v445 v446 v447 v448 v449 v450 v451 v452 v453 v454 v455 v456 v457 v458 v459 v460 v461 v462 v463 v464 v465 v466 v467 v468 v469 v470 v471 v472 v473 v474 v475 v476 v477 v478 v479 v480 v481 v482 v483 v484 v485 v486 v487 v488 v489 v490 v491 v492 v493 v494 v495 v496 v497 v498 v499 v500 v501 v502 v503 v504 v505 v506 : Value), Below W.heap.size W Y → Q .normal ⟨#[u0, u1, u2, u3, u4, u5, u6, u7, .pointer (some ⟨bC, 0, none⟩), u9, u10, .slice (some ⟨g1, 0, none⟩) HV cap1, u12, u13, u14, u15, u16, .slice (some ⟨g2, 0, none⟩) P cap2, u18, u19, u20, .slice (some ⟨g4, 0, none⟩) P cap4, u22, u23, .int .i64 (d : Int), .int .i64 (i : Int), .int .i64 (k : Int), u27, u28, .bool false, .int .i64 (jn : Int), v31, u32, u33, u34, u35, u36, u37, u38, u39, u40, u41, u42, u43, u44, u45, u46, u47, u48, u49, u50, u51, u52, u53, u54, u55, u56, u57, u58, u59, u60, u61, u62, u63, u64, u65, u66, u67, u68, u69, u70, u71, u72, u73, u74, u75, u76, u77, u78, u79, u80, u81, u82, u83, u84, u85, u86, u87, u88, u89, u90, u91, u92, u93, u94, u95, u96, u97, u98, u99, u100, u101, u102, u103, u104, u105, u106, u107, u108, u109, u110, u111, u112, u113, u114, u115, u116, u117, u118, u119, u120, u121, u122, u123, u124, u125, u126, u127, u128, u129, u130, u131, u132, u133, u134, u135, u136, u137, u138, u139, u140, u141, u142, u143, u144, u145, u146, u147, u148, u149, u150, u151, u152, u153, u154, u155, u156, u157, u158, u159, u160, u161, u162, u163, u164, u165, u166, u167, u168, u169, u170, u171, u172, u173, u174, u175, u176, u177, u178, u179, u180, u181, u182, u183, u184, u185, u186, u187, u188, u189, u190, u191, u192, u193, u194, u195, u196, u197, u198, u199, u200, u201, u202, u203, u204, u205, u206, u207, u208, u209, u210, u211, u212, u213, u214, u215, u216, u217, u218, u219, u220, u221, u222, u223, u224, u225, u226, u227, u228, u229, u230, u231, u232, u233, u234, u235, u236, u237, u238, u239, u240, u241, u242, u243, u244, u245, u246, u247, u248, u249, u250, u251, u252, u253, u254, u255, u256, u257, u258, u259, u260, u261, u262, u263, u264, u265, u266, u267, u268, u269, u270, u271, u272, u273, u274, u275, u276, u277, u278, u279, u280, u281, u282, u283, u284, u285, u286, u287, u288, u289, u290, u291, u292, u293, u294, u295, u296, u297, u298, u299, u300, u301, u302, u303, u304, u305, u306, u307, u308, u309, u310, u311, u312, u313, u314, u315, u316, u317, u318, u319, u320, u321, u322, u323, u324, u325, u326, u327, u328, u329, u330, u331, u332, u333, u334, u335, u336, u337, u338, u339, u340, u341, u342, u343, u344, u345, u346, u347, u348, u349, u350, u351, u352, u353, u354, u355, u356, u357, u358, u359, u360, u361, u362, u363, u364, u365, u366, u367, u368, u369, u370, u371, u372, u373, u374, u375, u376, u377, u378, u379, u380, u381, u382, u383, u384, u385, u386, u387, u388, u389, u390, u391, u392, v393, v394, v395, v396, v397, v398, v399, v400, v401, v402, v403, v404, v405, v406, v407, v408, v409, v410, v411, v412, v413, v414, v415, v416, v417, v418, v419, v420, v421, v422, v423, v424, v425, v426, v427, v428, v429, v430, v431, v432, v433, v434, v435, v436, v437, v438, v439, v440, v441, v442, v443, v444, v445, v446, v447, v448, v449, v450, v451, v452, v453, v454, v455, v456, v457, v458, v459, v460, v461, v462, v463, v464, v465, v466, v467, v468, v469, v470, v471, v472, v473, v474, v475, v476, v477, v478, v479, v480, v481, v482, v483, v484, v485, v486, v487, v488, v489, v490, v491, v492, v493, v494, v495, v496, v497, v498, v499, v500, v501, v502, v503, v504, v505, v506], []⟩ Y)) :
    Code.wp Try.prog pmB7 Q ⟨#[u0, u1, u2, u3, u4, u5, u6, u7, .pointer (some ⟨bC, 0, none⟩), u9, u10, .slice (some ⟨g1, 0, none⟩) HV cap1, u12, u13, u14, u15, u16, .slice (some ⟨g2, 0, none⟩) P cap2, u18, u19, u20, .slice (some ⟨g4, 0, none⟩) P cap4, u22, u23, .int .i64 (d : Int), .int .i64 (i : Int), .int .i64 (k : Int), u27, u28, .bool false, .int .i64 (jn : Int), u31, u32, u33, u34, u35, u36, u37, u38, u39, u40, u41, u42, u43, u44, u45, u46, u47, u48, u49, u50, u51, u52, u53, u54, u55, u56, u57, u58, u59, u60, u61, u62, u63, u64, u65, u66, u67, u68, u69, u70, u71, u72, u73, u74, u75, u76, u77, u78, u79, u80, u81, u82, u83, u84, u85, u86, u87, u88, u89, u90, u91, u92, u93, u94, u95, u96, u97, u98, u99, u100, u101, u102, u103, u104, u105, u106, u107, u108, u109, u110, u111, u112, u113, u114, u115, u116, u117, u118, u119, u120, u121, u122, u123, u124, u125, u126, u127, u128, u129, u130, u131, u132, u133, u134, u135, u136, u137, u138, u139, u140, u141, u142, u143, u144, u145, u146, u147, u148, u149, u150, u151, u152, u153, u154, u155, u156, u157, u158, u159, u160, u161, u162, u163, u164, u165, u166, u167, u168, u169, u170, u171, u172, u173, u174, u175, u176, u177, u178, u179, u180, u181, u182, u183, u184, u185, u186, u187, u188, u189, u190, u191, u192, u193, u194, u195, u196, u197, u198, u199, u200, u201, u202, u203, u204, u205, u206, u207, u208, u209, u210, u211, u212, u213, u214, u215, u216, u217, u218, u219, u220, u221, u222, u223, u224, u225, u226, u227, u228, u229, u230, u231, u232, u233, u234, u235, u236, u237, u238, u239, u240, u241, u242, u243, u244, u245, u246, u247, u248, u249, u250, u251, u252, u253, u254, u255, u256, u257, u258, u259, u260, u261, u262, u263, u264, u265, u266, u267, u268, u269, u270, u271, u272, u273, u274, u275, u276, u277, u278, u279, u280, u281, u282, u283, u284, u285, u286, u287, u288, u289, u290, u291, u292, u293, u294, u295, u296, u297, u298, u299, u300, u301, u302, u303, u304, u305, u306, u307, u308, u309, u310, u311, u312, u313, u314, u315, u316, u317, u318, u319, u320, u321, u322, u323, u324, u325, u326, u327, u328, u329, u330, u331, u332, u333, u334, u335, u336, u337, u338, u339, u340, u341, u342, u343, u344, u345, u346, u347, u348, u349, u350, u351, u352, u353, u354, u355, u356, u357, u358, u359, u360, u361, u362, u363, u364, u365, u366, u367, u368, u369, u370, u371, u372, u373, u374, u375, u376, u377, u378, u379, u380, u381, u382, u383, u384, u385, u386, u387, u388, u389, u390, u391, u392, u393, u394, u395, u396, u397, u398, u399, u400, u401, u402, u403, u404, u405, u406, u407, u408, u409, u410, u411, u412, u413, u414, u415, u416, u417, u418, u419, u420, u421, u422, u423, u424, u425, u426, u427, u428, u429, u430, u431, u432, u433, u434, u435, u436, u437, u438, u439, u440, u441, u442, u443, u444, u445, u446, u447, u448, u449, u450, u451, u452, u453, u454, u455, u456, u457, u458, u459, u460, u461, u462, u463, u464, u465, u466, u467, u468, u469, u470, u471, u472, u473, u474, u475, u476, u477, u478, u479, u480, u481, u482, u483, u484, u485, u486, u487, u488, u489, u490, u491, u492, u493, u494, u495, u496, u497, u498, u499, u500, u501, u502, u503, u504, u505, u506], []⟩ W := by
  conv => arg 2; whnf
  go_upto_region 36 with fail
  dsimp only [List.append]
  go_quiet (fail)
  go_wp2_with fail
  exact hQ.out _ _ _ _ _ _ _ _ _ _ _ _ _ _ _ _ _ _ _ _ _ _ _ _ _ _ _ _ _ _ _ _ _ _ _ _ _ _ _ _ _ _ _ _ _ _ _ _ _ _ _ _ _ _ _ _ _ _ _ _ _ _ _ _ _ _ _ _ _ _ _ _ _ _ _ _ _ _ _ _ _ _ _ _ _ _ _ _ _ _ _ _ _ _ _ _ _ _ _ _ _ _ _ _ _ _ _ _ _ _ _ _ _ _ _ _ (by repeat (first | (with_reducible exact Below.refl _ _) | (with_reducible refine Below.drew ?_) | (with_reducible refine bl_drewN ?_ _)))
end Go.Proofs.Ythjebjhepdclkaa
/- PatchMoved: the innermost loop. -/
namespace Go.Proofs.Ythjebjhepdclkaa
open Go.RowKit Go.Shelf

attribute [local go_sem ↓] Go.wp_at_zero Go.wp_at_succ
set_option maxHeartbeats 12800000 in
set_option maxRecDepth 100000 in
theorem pm_b6t (u0 u1 u2 u3 u4 u5 u6 u7 u9 u10 u12 u13 u14 u15 u16 u18 u19 u20 u22 u23 u31 u32 u33 u34 u35 u36 u37 u38 u39 u40 u41 u42 u43 u44 u45 u46 u47 u48 u49 u50 u51 u52 u53 u54 u55 u56 u57 u58 u59 u60 u61 u62 u63 u64 u65 u66 u67 u68 u69 u70 u71 u72 u73 u74 u75 u76 u77 u78 u79 u80 u81 u82 u83 u84 u85 u86 u87 u88 u89 u90 u91 u92 u93 u94 u95 u96 u97 u98 u99 u100 u101 u102 u103 u104 u105 u106 u107 u108 u109 u110 u111 u112 u113 u114 u115 u116 u117 u118 u119 u120 u121 u122 u123 u124 u125 u126 u127 u128 u129 u130 u131 u132 u133 u134 u135 u136 u137 u138 u139 u140 u141 u142 u143 u144 u145 u146 u147 u148 u149 u150 u151 u152 u153 u154 u155 u156 u157 u158 u159 u160 u161 u162 u163 u164 u165 u166 u167 u168 u169 u170 u171 u172 u173 u174 u175 u176 u177 u178 u179 u180 u181 u182 u183 u184 u185 u186 u187 u188 u189 u190 u191 u192 u193 u194 u195 u196 u197 u198 u199 u200 u201 u202 u203 u204 u205 u206 u207 u208 u209 u210 u211 u212 u213 u214 u215 u216 u217 u218 u219 u220 u221 u222 u223 u224 u225 u226 u227 u228 u229 u230 u231 u232 u233 u234 u235 u236 u237 u238 u239 u240 u241 u242 u243 u244 u245 u246 u247 u248 u249 u250 u251 u252 u253 u254 u255 u256 u257 u258 u259 u260 u261 u262 u263 u264 u265 u266 u267 u268 u269 u270 u271 u272 u273 u274 u275 u276 u277 u278 u279 u280 u281 u282 u283 u284 u285 u286 u287 u288 u289 u290 u291 u292 u293 u294 u295 u296 u297 u298 u299 u300 u301 u302 u303 u304 u305 u306 u307 u308 u309 u310 u311 u312 u313 u314 u315 u316 u317 u318 u319 u320 u321 u322 u323 u324 u325 u326 u327 u328 u329 u330 u331 u332 u333 u334 u335 u336 u337 u338 u339 u340 u341 u342 u343 u344 u345 u346 u347 u348 u349 u350 u351 u352 u353 u354 u355 u356 u357 u358 u359 u360 u361 u362 u363 u364 u365 u366 u367 u368 u369 u370 u371 u372 u373 u374 u375 u376 u377 u378 u379 u380 u381 u382 u383 u384 u385 u386 u387 u388 u389 u390 u391 u392 u393 u394 u395 u396 u397 u398 u399 u400 u401 u402 u403 u404 u405 u406 u407 u408 u409 u410 u411 u412 u413 u414 u415 u416 u417 u418 u419 u420 u421 u422 u423 u424 u425 u426 u427 u428 u429 u430 u431 u432 u433 u434 u435 u436 u437 u438 u439 u440 u441 u442 u443 u444 u445 u446 u447 u448 u449 u450 u451 u452 u453 u454 u455 u456 u457 u458 u459 u460 u461 u462 u463 u464 u465 u466 u467 u468 u469 u470 u471 u472 u473 u474 u475 u476 u477 u478 u479 u480 u481 u482 u483 u484 u485 u486 u487 u488 u489 u490 u491 u492 u493 u494 u495 u496 u497 u498 u499 u500 u501 u502 u503 u504 u505 u506 : Value) (W : World) (bC g1 g2 g4 P M d i k kn kd kd1 : Nat) (cap1 cap2 cap4 HV : Nat) (A2 K2 P2 L2 A4 K4 P4 L4 : Nat) (F G : Nat → Nat) (A1 K1 V yy xx yv pp : Nat) (Q : Exit → Act → World → Prop)
    (hi : (i : Int) < (P : Int)) (hi0 : (0 : Int) ≤ (i : Int)) (hk3 : kd + d = kd1) (hkM : kd1 ≤ M) (hM : M ≤ 1000000)
    (wk1 : IntKind.i64.wrap ((k : Int) + 1) = (kn : Int)) (wkd1 : IntKind.i64.wrap ((kn : Int) * (d : Int)) = (kd1 : Int))
    (c1 : W.cell? ⟨g2, i * 4 + 1, none⟩ = some (.slice (some ⟨A2, 0, none⟩) M K2)) (c3 : W.cell? ⟨g2, i * 4 + 3, none⟩ = some (.slice (some ⟨P2, 0, none⟩) M L2)) (n1 : W.cell? ⟨g4, i * 4 + 1, none⟩ = some (.slice (some ⟨A4, 0, none⟩) M K4)) (n3 : W.cell? ⟨g4, i * 4 + 3, none⟩ = some (.slice (some ⟨P4, 0, none⟩) M L4))
    (w2 : ∀ jj, jj < d → W.cell? ⟨P2, kd + jj, none⟩ = some (.int .u64 (F jj : Int))) (w1 : ∀ jj, jj < d → W.cell? ⟨A2, kd + jj, none⟩ = some (.int .u64 (G jj : Int)))
    (n4 : ∀ jj, jj < d → W.cell? ⟨P4, kd + jj, none⟩ = some (.int .u64 (F jj : Int))) (n2 : ∀ jj, jj < d → W.cell? ⟨A4, kd + jj, none⟩ = some (.int .u64 (G jj : Int))) (o1 : W.cell? ⟨g1, pp * 4 + 1, none⟩ = some (.slice (some ⟨A1, 0, none⟩) d K1)) (ow : ∀ jj, jj < d → W.cell? ⟨A1, jj, none⟩ = some (.int .u64 (G jj : Int))) (k1 : W.cell? ⟨bC, 1, none⟩ = some (.int .i64 (V : Int)))
    (wyv : IntKind.i64.wrap ((yy : Int) * (V : Int)) = (yv : Int)) (wpp : IntKind.i64.wrap ((yv : Int) + (xx : Int)) = (pp : Int)) (wkd : IntKind.i64.wrap ((k : Int) * (d : Int)) = (kd : Int))
    (hp : (pp : Int) < (HV : Int)) (hp0 : (0 : Int) ≤ (pp : Int))
    (hQ : Hid (∀ (Y : World) (v6 v30 v31 v385 v386 v387 v388 v389 v390 v391 v392 v393 v394 v395 v396 v397 v398 v399 v400 v401 v402 v403 v404 v405 v406 v407 v408 v409 v410 v411 v412 v413 v414 v415 v416 v417 v418 v419 v420 v421 v422 v423 v424 v425 v426 v427 v428 v429 v430 v431 v432 v433 v434 v435 v436 v437 v438 v439 v440 v441 v442 v443 v444 v445 v446 v447 v448 v449 v450 v451 v452 v453 v454 v455 v456 v457 v458 v459 v460 v461 v462 v463 v464 v465 v466 v467 v468 v469 v470 v471 v472 v473 v474 v475 v476 v477 v478 v479 v480 v481 v482 v483 v484 v485 v486 v487 v488 v489 v490 v491 v492 v493 v494 v495 v496 v497 v498 v499 v500 v501 v502 v503 v504 v505 v506 : Value), Below W.heap.size W Y → Q .normal ⟨#[u0, u1, u2, u3, u4, u5, v6, u7, .pointer (some ⟨bC, 0, none⟩), u9, u10, .slice (some ⟨g1, 0, none⟩) HV cap1, u12, u13, u14, u15, u16, .slice (some ⟨g2, 0, none⟩) P cap2, u18, u19, u20, .slice (some ⟨g4, 0, none⟩) P cap4, u22, u23, .int .i64 (d : Int), .int .i64 (i : Int), .int .i64 (k : Int), .int .i64 (yy : Int), .int .i64 (xx : Int), .bool true, v30, v31, u32, u33, u34, u35, u36, u37, u38, u39, u40, u41, u42, u43, u44, u45, u46, u47, u48, u49, u50, u51, u52, u53, u54, u55, u56, u57, u58, u59, u60, u61, u62, u63, u64, u65, u66, u67, u68, u69, u70, u71, u72, u73, u74, u75, u76, u77, u78, u79, u80, u81, u82, u83, u84, u85, u86, u87, u88, u89, u90, u91, u92, u93, u94, u95, u96, u97, u98, u99, u100, u101, u102, u103, u104, u105, u106, u107, u108, u109, u110, u111, u112, u113, u114, u115, u116, u117, u118, u119, u120, u121, u122, u123, u124, u125, u126, u127, u128, u129, u130, u131, u132, u133, u134, u135, u136, u137, u138, u139, u140, u141, u142, u143, u144, u145, u146, u147, u148, u149, u150, u151, u152, u153, u154, u155, u156, u157, u158, u159, u160, u161, u162, u163, u164, u165, u166, u167, u168, u169, u170, u171, u172, u173, u174, u175, u176, u177, u178, u179, u180, u181, u182, u183, u184, u185, u186, u187, u188, u189, u190, u191, u192, u193, u194, u195, u196, u197, u198, u199, u200, u201, u202, u203, u204, u205, u206, u207, u208, u209, u210, u211, u212, u213, u214, u215, u216, u217, u218, u219, u220, u221, u222, u223, u224, u225, u226, u227, u228, u229, u230, u231, u232, u233, u234, u235, u236, u237, u238, u239, u240, u241, u242, u243, u244, u245, u246, u247, u248, u249, u250, u251, u252, u253, u254, u255, u256, u257, u258, u259, u260, u261, u262, u263, u264, u265, u266, u267, u268, u269, u270, u271, u272, u273, u274, u275, u276, u277, u278, u279, u280, u281, u282, u283, u284, u285, u286, u287, u288, u289, u290, u291, u292, u293, u294, u295, u296, u297, u298, u299, u300, u301, u302, u303, u304, u305, u306, u307, u308, u309, u310, u311, u312, u313, u314, u315, u316, u317, u318, u319, u320, u321, u322, u323, u324, u325, u326, u327, u328, u329, u330, u331, u332, u333, u334, u335, u336, u337, u338, u339, u340, u341, u342, u343, u344, u345, u346, u347, u348, u349, u350, u351, u352, u353, u354, u355, u356, u357, u358, u359, u360, u361, u362, u363, u364, u365, u366, u367, u368, u369, u370, u371, u372, u373, u374, u375, u376, u377, u378, u379, u380, u381, u382, u383, u384, v385, v386, v387, v388, v389, v390, v391, v392, v393, v394, v395, v396, v397, v398, v399, v400, v401, v402, v403, v404, v405, v406, v407, v408, v409, v410, v411, v412, v413, v414, v415, v416, v417, v418, v419, v420, v421, v422, v423, v424, v425, v426, v427, v428, v429, v430, v431, v432, v433, v434, v435, v436, v437, v438, v439, v440, v441, v442, v443, v444, v445, v446, v447, v448, v449, v450, v451, v452, v453, v454, v455, v456, v457, v458, v459, v460, v461, v462, v463, v464, v465, v466, v467, v468, v469, v470, v471, v472, v473, v474, v475, v476, v477, v478, v479, v480, v481, v482, v483, v484, v485, v486, v487, v488, v489, v490, v491, v492, v493, v494, v495, v496, v497, v498, v499, v500, v501, v502, v503, v504, v505, v506], []⟩ Y)) :
    Code.wp Try.prog pmB6 Q ⟨#[u0, u1, u2, u3, u4, u5, u6, u7, .pointer (some ⟨bC, 0, none⟩), u9, u10, .slice (some ⟨g1, 0, none⟩) HV cap1, u12, u13, u14, u15, u16, .slice (some ⟨g2, 0, none⟩) P cap2, u18, u19, u20, .slice (some ⟨g4, 0, none⟩) P cap4, u22, u23, .int .i64 (d : Int), .int .i64 (i : Int), .int .i64 (k : Int), .int .i64 (yy : Int), .int .i64 (xx : Int), .bool true, .int .i64 (kd : Int), u31, u32, u33, u34, u35, u36, u37, u38, u39, u40, u41, u42, u43, u44, u45, u46, u47, u48, u49, u50, u51, u52, u53, u54, u55, u56, u57, u58, u59, u60, u61, u62, u63, u64, u65, u66, u67, u68, u69, u70, u71, u72, u73, u74, u75, u76, u77, u78, u79, u80, u81, u82, u83, u84, u85, u86, u87, u88, u89, u90, u91, u92, u93, u94, u95, u96, u97, u98, u99, u100, u101, u102, u103, u104, u105, u106, u107, u108, u109, u110, u111, u112, u113, u114, u115, u116, u117, u118, u119, u120, u121, u122, u123, u124, u125, u126, u127, u128, u129, u130, u131, u132, u133, u134, u135, u136, u137, u138, u139, u140, u141, u142, u143, u144, u145, u146, u147, u148, u149, u150, u151, u152, u153, u154, u155, u156, u157, u158, u159, u160, u161, u162, u163, u164, u165, u166, u167, u168, u169, u170, u171, u172, u173, u174, u175, u176, u177, u178, u179, u180, u181, u182, u183, u184, u185, u186, u187, u188, u189, u190, u191, u192, u193, u194, u195, u196, u197, u198, u199, u200, u201, u202, u203, u204, u205, u206, u207, u208, u209, u210, u211, u212, u213, u214, u215, u216, u217, u218, u219, u220, u221, u222, u223, u224, u225, u226, u227, u228, u229, u230, u231, u232, u233, u234, u235, u236, u237, u238, u239, u240, u241, u242, u243, u244, u245, u246, u247, u248, u249, u250, u251, u252, u253, u254, u255, u256, u257, u258, u259, u260, u261, u262, u263, u264, u265, u266, u267, u268, u269, u270, u271, u272, u273, u274, u275, u276, u277, u278, u279, u280, u281, u282, u283, u284, u285, u286, u287, u288, u289, u290, u291, u292, u293, u294, u295, u296, u297, u298, u299, u300, u301, u302, u303, u304, u305, u306, u307, u308, u309, u310, u311, u312, u313, u314, u315, u316, u317, u318, u319, u320, u321, u322, u323, u324, u325, u326, u327, u328, u329, u330, u331, u332, u333, u334, u335, u336, u337, u338, u339, u340, u341, u342, u343, u344, u345, u346, u347, u348, u349, u350, u351, u352, u353, u354, u355, u356, u357, u358, u359, u360, u361, u362, u363, u364, u365, u366, u367, u368, u369, u370, u371, u372, u373, u374, u375, u376, u377, u378, u379, u380, u381, u382, u383, u384, u385, u386, u387, u388, u389, u390, u391, u392, u393, u394, u395, u396, u397, u398, u399, u400, u401, u402, u403, u404, u405, u406, u407, u408, u409, u410, u411, u412, u413, u414, u415, u416, u417, u418, u419, u420, u421, u422, u423, u424, u425, u426, u427, u428, u429, u430, u431, u432, u433, u434, u435, u436, u437, u438, u439, u440, u441, u442, u443, u444, u445, u446, u447, u448, u449, u450, u451, u452, u453, u454, u455, u456, u457, u458, u459, u460, u461, u462, u463, u464, u465, u466, u467, u468, u469, u470, u471, u472, u473, u474, u475, u476, u477, u478, u479, u480, u481, u482, u483, u484, u485, u486, u487, u488, u489, u490, u491, u492, u493, u494, u495, u496, u497, u498, u499, u500, u501, u502, u503, u504, u505, u506], []⟩ W := by
  conv => arg 2; whnf
  have wjn : ∀ jj : Nat, jj < d → IntKind.i64.wrap (((kd + jj : Nat) : Int) - (kd : Int)) = (jj : Int) := fun jj _ => by rw [IntKind.wrap_i64]; omega
  go_wp2_with fail
  go_loopw [30, 31] (fun j _ wr => ∃ jj : Nat, jj ≤ d ∧ j = .int .i64 ((kd + jj : Nat) : Int) ∧ Below W.heap.size W wr) (fun j _ _ => kd + d - (intOf j).toNat)
  case atStart => exact ⟨0, Nat.zero_le _, by simp, Below.refl _ _⟩
  case round =>
    obtain ⟨jj, hjd, rfl, BX⟩ := hrel
    rename World => X
    have wj0 := wjn jj
    obtain ⟨jn, ejn⟩ : ∃ x, kd + jj = x := ⟨_, rfl⟩
    rw [ejn] at wj0 ⊢
    have hj0 : (0 : Int) ≤ (jn : Int) := by omega
    by_cases hlt : jj < d
    · have hl1 : (jn : Int) < (kd1 : Int) := by omega
      have hjM : (jn : Int) < (M : Int) := by omega
      have q2 := keepc BX (w2 jj hlt)
      have q1 := keepc BX (w1 jj hlt)
      have p4 := keepc BX (n4 jj hlt)
      have p2 := keepc BX (n2 jj hlt)
      rw [ejn] at q2 q1 p4 p2
      have HQ1 := hid1 (And.intro q2 (And.intro q1 (And.intro p4 p2)))
      clear q2 q1 p4 p2
      go_upto_block 7 with fail
      refine pm_t35 _ _ _ _ _ _ _ _ _ _ _ _ _ _ _ _ _ _ _ _ _ _ _ _ _ _ _ _ _ _ _ _ _ _ _ _ _ _ _ _ _ _ _ _ _ _ _ _ _ _ _ _ _ _ _ _ _ _ _ _ _ _ _ _ _ _ _ _ _ _ _ _ _ _ _ _ _ _ _ _ _ _ _ _ _ _ _ _ _ _ _ _ _ _ _ _ _ _ _ _ _ _ _ _ _ _ _ _ _ _ _ _ _ _ _ _ _ _ _ _ _ _ _ _ _ _ _ _ _ _ _ _ _ _ _ _ _ _ _ _ _ _ _ _ _ _ _ _ _ _ _ _ _ _ _ _ _ _ _ _ _ _ _ _ _ _ _ _ _ _ _ _ _ _ _ _ _ _ _ _ _ _ _ _ _ _ _ _ _ _ _ _ _ _ _ _ _ _ _ _ _ _ _ _ _ _ _ _ _ _ _ _ _ _ _ _ _ _ _ _ _ _ _ _ _ _ _ _ _ _ _ _ _ _ _ _ _ _ _ _ _ _ _ _ _ _ _ _ _ _ _ _ _ _ _ _ _ _ _ _ _ _ _ _ _ _ _ _ _ _ _ _ _ _ _ _ _ _ _ _ _ _ _ _ _ _ _ _ _ _ _ _ _ _ _ _ _ _ _ _ _ _ _ _ _ _ _ _ _ _ _ _ _ _ _ _ _ _ _ _ _ _ _ _ _ _ _ _ _ _ _ _ _ _ _ _ _ _ _ _ _ _ _ _ _ _ _ _ _ _ _ _ _ _ _ _ _ _ _ _ _ _ _ _ _ _ _ _ _ _ _ _ _ _ _ _ _ _ _ _ _ _ _ _ _ _ _ _ _ _ _ _ _ _ _ _ _ _ _ _ _ _ _ _ _ _ _ _ _ _ _ _ _ _ _ _ _ _ _ _ _ _ _ _ _ _ _ _ _ _ _ _ _ _ _ _ _ _ _ _ _ _ _ _ _ _ _ _ _ _ _ _ _ _ _ _ _ _ _ _ _ _ _ _ _ _ _ _ _ _ _ _ _ _ _ _ _ _ _ _ _ _ _ _ _ _ _ _ _ _ _ _ _ _ _ _ X bC g1 g2 g4 P M d i k jn jj cap1 cap2 cap4 HV A2 K2 P2 L2 A4 K4 P4 L4 (F jj) (G jj) A1 K1 V yy xx yv pp kd _ hi hi0 hjM hj0 (keepc BX c1) (keepc BX c3) (keepc BX n1) (keepc BX n3) HQ1.out.1 HQ1.out.2.1 HQ1.out.2.2.1 HQ1.out.2.2.2 (keepc BX o1) (keepc BX (ow jj hlt)) (keepc BX k1) wyv wpp wkd (wj0 hlt) hp hp0 (by omega) (by omega) (hid1 ?_)
      intro Y v31 v393 v394 v395 v396 v397 v398 v399 v400 v401 v402 v403 v404 v405 v406 v407 v408 v409 v410 v411 v412 v413 v414 v415 v416 v417 v418 v419 v420 v421 v422 v423 v424 v425 v426 v427 v428 v429 v430 v431 v432 v433 v434 v435 v436 v437 v438 v439 v440 v441 v442 v443 v444 v445 v446 v447 v448 v449 v450 v451 v452 v453 v454 v455 v456 v457 v458 v459 v460 v461 v462 v463 v464 v465 v466 v467 v468 v469 v470 v471 v472 v473 v474 v475 v476 v477 v478 v479 v480 v481 v482 v483 v484 v485 v486 v487 v488 v489 v490 v491 v492 v493 v494 v495 v496 v497 v498 v499 v500 v501 v502 v503 v504 v505 v506 BY
      go_wp2_with fail
      exact ⟨⟨jj + 1, by omega, by rw [← ejn]; go_num, bl_step BX BY⟩, by simp [intOf]; omega⟩
    · have hl1 : ¬ (jn : Int) < (kd1 : Int) := by omega
      go_wp2_with fail
      exact hQ.out _ _ _ _ _ _ _ _ _ _ _ _ _ _ _ _ _ _ _ _ _ _ _ _ _ _ _ _ _ _ _ _ _ _ _ _ _ _ _ _ _ _ _ _ _ _ _ _ _ _ _ _ _ _ _ _ _ _ _ _ _ _ _ _ _ _ _ _ _ _ _ _ _ _ _ _ _ _ _ _ _ _ _ _ _ _ _ _ _ _ _ _ _ _ _ _ _ _ _ _ _ _ _ _ _ _ _ _ _ _ _ _ _ _ _ _ _ _ _ _ _ _ _ _ _ _ BX
attribute [local go_sem ↓] Go.wp_at_zero Go.wp_at_succ
set_option maxHeartbeats 12800000 in
set_option maxRecDepth 100000 in
theorem pm_b6f (u0 u1 u2 u3 u4 u5 u6 u7 u9 u10 u12 u13 u14 u15 u16 u18 u19 u20 u22 u23 u27 u28 u31 u32 u33 u34 u35 u36 u37 u38 u39 u40 u41 u42 u43 u44 u45 u46 u47 u48 u49 u50 u51 u52 u53 u54 u55 u56 u57 u58 u59 u60 u61 u62 u63 u64 u65 u66 u67 u68 u69 u70 u71 u72 u73 u74 u75 u76 u77 u78 u79 u80 u81 u82 u83 u84 u85 u86 u87 u88 u89 u90 u91 u92 u93 u94 u95 u96 u97 u98 u99 u100 u101 u102 u103 u104 u105 u106 u107 u108 u109 u110 u111 u112 u113 u114 u115 u116 u117 u118 u119 u120 u121 u122 u123 u124 u125 u126 u127 u128 u129 u130 u131 u132 u133 u134 u135 u136 u137 u138 u139 u140 u141 u142 u143 u144 u145 u146 u147 u148 u149 u150 u151 u152 u153 u154 u155 u156 u157 u158 u159 u160 u161 u162 u163 u164 u165 u166 u167 u168 u169 u170 u171 u172 u173 u174 u175 u176 u177 u178 u179 u180 u181 u182 u183 u184 u185 u186 u187 u188 u189 u190 u191 u192 u193 u194 u195 u196 u197 u198 u199 u200 u201 u202 u203 u204 u205 u206 u207 u208 u209 u210 u211 u212 u213 u214 u215 u216 u217 u218 u219 u220 u221 u222 u223 u224 u225 u226 u227 u228 u229 u230 u231 u232 u233 u234 u235 u236 u237 u238 u239 u240 u241 u242 u243 u244 u245 u246 u247 u248 u249 u250 u251 u252 u253 u254 u255 u256 u257 u258 u259 u260 u261 u262 u263 u264 u265 u266 u267 u268 u269 u270 u271 u272 u273 u274 u275 u276 u277 u278 u279 u280 u281 u282 u283 u284 u285 u286 u287 u288 u289 u290 u291 u292 u293 u294 u295 u296 u297 u298 u299 u300 u301 u302 u303 u304 u305 u306 u307 u308 u309 u310 u311 u312 u313 u314 u315 u316 u317 u318 u319 u320 u321 u322 u323 u324 u325 u326 u327 u328 u329 u330 u331 u332 u333 u334 u335 u336 u337 u338 u339 u340 u341 u342 u343 u344 u345 u346 u347 u348 u349 u350 u351 u352 u353 u354 u355 u356 u357 u358 u359 u360 u361 u362 u363 u364 u365 u366 u367 u368 u369 u370 u371 u372 u373 u374 u375 u376 u377 u378 u379 u380 u381 u382 u383 u384 u385 u386 u387 u388 u389 u390 u391 u392 u393 u394 u395 u396 u397 u398 u399 u400 u401 u402 u403 u404 u405 u406 u407 u408 u409 u410 u411 u412 u413 u414 u415 u416 u417 u418 u419 u420 u421 u422 u423 u424 u425 u426 u427 u428 u429 u430 u431 u432 u433 u434 u435 u436 u437 u438 u439 u440 u441 u442 u443 u444 u445 u446 u447 u448 u449 u450 u451 u452 u453 u454 u455 u456 u457 u458 u459 u460 u461 u462 u463 u464 u465 u466 u467 u468 u469 u470 u471 u472 u473 u474 u475 u476 u477 u478 u479 u480 u481 u482 u483 u484 u485 u486 u487 u488 u489 u490 u491 u492 u493 u494 u495 u496 u497 u498 u499 u500 u501 u502 u503 u504 u505 u506 : Value) (W : World) (bC g1 g2 g4 P M d i k kn kd kd1 : Nat) (cap1 cap2 cap4 HV : Nat) (A2 K2 P2 L2 A4 K4 P4 L4 : Nat) (F : Nat → Nat) (Q : Exit → Act → World → Prop)
    (hi : (i : Int) < (P : Int)) (hi0 : (0 : Int) ≤ (i : Int)) (hk3 : kd + d = kd1) (hkM : kd1 ≤ M) (hM : M ≤ 1000000)
    (wk1 : IntKind.i64.wrap ((k : Int) + 1) = (kn : Int)) (wkd1 : IntKind.i64.wrap ((kn : Int) * (d : Int)) = (kd1 : Int))
    (c1 : W.cell? ⟨g2, i * 4 + 1, none⟩ = some (.slice (some ⟨A2, 0, none⟩) M K2)) (c3 : W.cell? ⟨g2, i * 4 + 3, none⟩ = some (.slice (some ⟨P2, 0, none⟩) M L2)) (n1 : W.cell? ⟨g4, i * 4 + 1, none⟩ = some (.slice (some ⟨A4, 0, none⟩) M K4)) (n3 : W.cell? ⟨g4, i * 4 + 3, none⟩ = some (.slice (some ⟨P4, 0, none⟩) M L4))
    (w2 : ∀ jj, jj < d → W.cell? ⟨P2, kd + jj, none⟩ = some (.int .u64 (F jj : Int))) (w1 : ∀ jj, jj < d → W.cell? ⟨A2, kd + jj, none⟩ = some (.int .u64 (F jj : Int)))
    (n4 : ∀ jj, jj < d → W.cell? ⟨P4, kd + jj, none⟩ = some (.int .u64 0)) (n2 : ∀ jj, jj < d → W.cell? ⟨A4, kd + jj, none⟩ = some (.int .u64 0))
    (hQ : Hid (∀ (Y : World) (v6 v30 v31 v385 v386 v387 v388 v389 v390 v391 v392 v393 v394 v395 v396 v397 v398 v399 v400 v401 v402 v403 v404 v405 v406 v407 v408 v409 v410 v411 v412 v413 v414 v415 v416 v417 v418 v419 v420 v421 v422 v423 v424 v425 v426 v427 v428 v429 v430 v431 v432 v433 v434 v435 v436 v437 v438 v439 v440 v441 v442 v443 v444 v445 v446 v447 v448 v449 v450 v451 v452 v453 v454 v455 v456 v457 v458 v459 v460 v461 v462 v463 v464 v465 v466 v467 v468 v469 v470 v471 v472 v473 v474 v475 v476 v477 v478 v479 v480 v481 v482 v483 v484 v485 v486 v487 v488 v489 v490 v491 v492 v493 v494 v495 v496 v497 v498 v499 v500 v501 v502 v503 v504 v505 v506 : Value), Below W.heap.size W Y → Q .normal ⟨#[u0, u1, u2, u3, u4, u5, v6, u7, .pointer (some ⟨bC, 0, none⟩), u9, u10, .slice (some ⟨g1, 0, none⟩) HV cap1, u12, u13, u14, u15, u16, .slice (some ⟨g2, 0, none⟩) P cap2, u18, u19, u20, .slice (some ⟨g4, 0, none⟩) P cap4, u22, u23, .int .i64 (d : Int), .int .i64 (i : Int), .int .i64 (k : Int), u27, u28, .bool false, v30, v31, u32, u33, u34, u35, u36, u37, u38, u39, u40, u41, u42, u43, u44, u45, u46, u47, u48, u49, u50, u51, u52, u53, u54, u55, u56, u57, u58, u59, u60, u61, u62, u63, u64, u65, u66, u67, u68, u69, u70, u71, u72, u73, u74, u75, u76, u77, u78, u79, u80, u81, u82, u83, u84, u85, u86, u87, u88, u89, u90, u91, u92, u93, u94, u95, u96, u97, u98, u99, u100, u101, u102, u103, u104, u105, u106, u107, u108, u109, u110, u111, u112, u113, u114, u115, u116, u117, u118, u119, u120, u121, u122, u123, u124, u125, u126, u127, u128, u129, u130, u131, u132, u133, u134, u135, u136, u137, u138, u139, u140, u141, u142, u143, u144, u145, u146, u147, u148, u149, u150, u151, u152, u153, u154, u155, u156, u157, u158, u159, u160, u161, u162, u163, u164, u165, u166, u167, u168, u169, u170, u171, u172, u173, u174, u175, u176, u177, u178, u179, u180, u181, u182, u183, u184, u185, u186, u187, u188, u189, u190, u191, u192, u193, u194, u195, u196, u197, u198, u199, u200, u201, u202, u203, u204, u205, u206, u207, u208, u209, u210, u211, u212, u213, u214, u215, u216, u217, u218, u219, u220, u221, u222, u223, u224, u225, u226, u227, u228, u229, u230, u231, u232, u233, u234, u235, u236, u237, u238, u239, u240, u241, u242, u243, u244, u245, u246, u247, u248, u249, u250, u251, u252, u253, u254, u255, u256, u257, u258, u259, u260, u261, u262, u263, u264, u265, u266, u267, u268, u269, u270, u271, u272, u273, u274, u275, u276, u277, u278, u279, u280, u281, u282, u283, u284, u285, u286, u287, u288, u289, u290, u291, u292, u293, u294, u295, u296, u297, u298, u299, u300, u301, u302, u303, u304, u305, u306, u307, u308, u309, u310, u311, u312, u313, u314, u315, u316, u317, u318, u319, u320, u321, u322, u323, u324, u325, u326, u327, u328, u329, u330, u331, u332, u333, u334, u335, u336, u337, u338, u339, u340, u341, u342, u343, u344, u345, u346, u347, u348, u349, u350, u351, u352, u353, u354, u355, u356, u357, u358, u359, u360, u361, u362, u363, u364, u365, u366, u367, u368, u369, u370, u371, u372, u373, u374, u375, u376, u377, u378, u379, u380, u381, u382, u383, u384, v385, v386, v387, v388, v389, v390, v391, v392, v393, v394, v395, v396, v397, v398, v399, v400, v401, v402, v403, v404, v405, v406, v407, v408, v409, v410, v411, v412, v413, v414, v415, v416, v417, v418, v419, v420, v421, v422, v423, v424, v425, v426, v427, v428, v429, v430, v431, v432, v433, v434, v435, v436, v437, v438, v439, v440, v441, v442, v443, v444, v445, v446, v447, v448, v449, v450, v451, v452, v453, v454, v455, v456, v457, v458, v459, v460, v461, v462, v463, v464, v465, v466, v467, v468, v469, v470, v471, v472, v473, v474, v475, v476, v477, v478, v479, v480, v481, v482, v483, v484, v485, v486, v487, v488, v489, v490, v491, v492, v493, v494, v495, v496, v497, v498, v499, v500, v501, v502, v503, v504, v505, v506], []⟩ Y)) :
    Code.wp Try.prog pmB6 Q ⟨#[u0, u1, u2, u3, u4, u5, u6, u7, .pointer (some ⟨bC, 0, none⟩), u9, u10, .slice (some ⟨g1, 0, none⟩) HV cap1, u12, u13, u14, u15, u16, .slice (some ⟨g2, 0, none⟩) P cap2, u18, u19, u20, .slice (some ⟨g4, 0, none⟩) P cap4, u22, u23, .int .i64 (d : Int), .int .i64 (i : Int), .int .i64 (k : Int), u27, u28, .bool false, .int .i64 (kd : Int), u31, u32, u33, u34, u35, u36, u37, u38, u39, u40, u41, u42, u43, u44, u45, u46, u47, u48, u49, u50, u51, u52, u53, u54, u55, u56, u57, u58, u59, u60, u61, u62, u63, u64, u65, u66, u67, u68, u69, u70, u71, u72, u73, u74, u75, u76, u77, u78, u79, u80, u81, u82, u83, u84, u85, u86, u87, u88, u89, u90, u91, u92, u93, u94, u95, u96, u97, u98, u99, u100, u101, u102, u103, u104, u105, u106, u107, u108, u109, u110, u111, u112, u113, u114, u115, u116, u117, u118, u119, u120, u121, u122, u123, u124, u125, u126, u127, u128, u129, u130, u131, u132, u133, u134, u135, u136, u137, u138, u139, u140, u141, u142, u143, u144, u145, u146, u147, u148, u149, u150, u151, u152, u153, u154, u155, u156, u157, u158, u159, u160, u161, u162, u163, u164, u165, u166, u167, u168, u169, u170, u171, u172, u173, u174, u175, u176, u177, u178, u179, u180, u181, u182, u183, u184, u185, u186, u187, u188, u189, u190, u191, u192, u193, u194, u195, u196, u197, u198, u199, u200, u201, u202, u203, u204, u205, u206, u207, u208, u209, u210, u211, u212, u213, u214, u215, u216, u217, u218, u219, u220, u221, u222, u223, u224, u225, u226, u227, u228, u229, u230, u231, u232, u233, u234, u235, u236, u237, u238, u239, u240, u241, u242, u243, u244, u245, u246, u247, u248, u249, u250, u251, u252, u253, u254, u255, u256, u257, u258, u259, u260, u261, u262, u263, u264, u265, u266, u267, u268, u269, u270, u271, u272, u273, u274, u275, u276, u277, u278, u279, u280, u281, u282, u283, u284, u285, u286, u287, u288, u289, u290, u291, u292, u293, u294, u295, u296, u297, u298, u299, u300, u301, u302, u303, u304, u305, u306, u307, u308, u309, u310, u311, u312, u313, u314, u315, u316, u317, u318, u319, u320, u321, u322, u323, u324, u325, u326, u327, u328, u329, u330, u331, u332, u333, u334, u335, u336, u337, u338, u339, u340, u341, u342, u343, u344, u345, u346, u347, u348, u349, u350, u351, u352, u353, u354, u355, u356, u357, u358, u359, u360, u361, u362, u363, u364, u365, u366, u367, u368, u369, u370, u371, u372, u373, u374, u375, u376, u377, u378, u379, u380, u381, u382, u383, u384, u385, u386, u387, u388, u389, u390, u391, u392, u393, u394, u395, u396, u397, u398, u399, u400, u401, u402, u403, u404, u405, u406, u407, u408, u409, u410, u411, u412, u413, u414, u415, u416, u417, u418, u419, u420, u421, u422, u423, u424, u425, u426, u427, u428, u429, u430, u431, u432, u433, u434, u435, u436, u437, u438, u439, u440, u441, u442, u443, u444, u445, u446, u447, u448, u449, u450, u451, u452, u453, u454, u455, u456, u457, u458, u459, u460, u461, u462, u463, u464, u465, u466, u467, u468, u469, u470, u471, u472, u473, u474, u475, u476, u477, u478, u479, u480, u481, u482, u483, u484, u485, u486, u487, u488, u489, u490, u491, u492, u493, u494, u495, u496, u497, u498, u499, u500, u501, u502, u503, u504, u505, u506], []⟩ W := by
  conv => arg 2; whnf
  go_wp2_with fail
  go_loopw [30, 31] (fun j _ wr => ∃ jj : Nat, jj ≤ d ∧ j = .int .i64 ((kd + jj : Nat) : Int) ∧ Below W.heap.size W wr) (fun j _ _ => kd + d - (intOf j).toNat)
  case atStart => exact ⟨0, Nat.zero_le _, by simp, Below.refl _ _⟩
  case round =>
    obtain ⟨jj, hjd, rfl, BX⟩ := hrel
    rename World => X
    obtain ⟨jn, ejn⟩ : ∃ x, kd + jj = x := ⟨_, rfl⟩
    rw [ejn]
    have hj0 : (0 : Int) ≤ (jn : Int) := by omega
    by_cases hlt : jj < d
    · have hl1 : (jn : Int) < (kd1 : Int) := by omega
      have hjM : (jn : Int) < (M : Int) := by omega
      have q2 := keepc BX (w2 jj hlt)
      have q1 := keepc BX (w1 jj hlt)
      have p4 := keepc BX (n4 jj hlt)
      have p2 := keepc BX (n2 jj hlt)
      rw [ejn] at q2 q1 p4 p2
      have HQ1 := hid1 (And.intro q2 (And.intro q1 (And.intro p4 p2)))
      clear q2 q1 p4 p2
      go_upto_block 7 with fail
      refine pm_f35 _ _ _ _ _ _ _ _ _ _ _ _ _ _ _ _ _ _ _ _ _ _ _ _ _ _ _ _ _ _ _ _ _ _ _ _ _ _ _ _ _ _ _ _ _ _ _ _ _ _ _ _ _ _ _ _ _ _ _ _ _ _ _ _ _ _ _ _ _ _ _ _ _ _ _ _ _ _ _ _ _ _ _ _ _ _ _ _ _ _ _ _ _ _ _ _ _ _ _ _ _ _ _ _ _ _ _ _ _ _ _ _ _ _ _ _ _ _ _ _ _ _ _ _ _ _ _ _ _ _ _ _ _ _ _ _ _ _ _ _ _ _ _ _ _ _ _ _ _ _ _ _ _ _ _ _ _ _ _ _ _ _ _ _ _ _ _ _ _ _ _ _ _ _ _ _ _ _ _ _ _ _ _ _ _ _ _ _ _ _ _ _ _ _ _ _ _ _ _ _ _ _ _ _ _ _ _ _ _ _ _ _ _ _ _ _ _ _ _ _ _ _ _ _ _ _ _ _ _ _ _ _ _ _ _ _ _ _ _ _ _ _ _ _ _ _ _ _ _ _ _ _ _ _ _ _ _ _ _ _ _ _ _ _ _ _ _ _ _ _ _ _ _ _ _ _ _ _ _ _ _ _ _ _ _ _ _ _ _ _ _ _ _ _ _ _ _ _ _ _ _ _ _ _ _ _ _ _ _ _ _ _ _ _ _ _ _ _ _ _ _ _ _ _ _ _ _ _ _ _ _ _ _ _ _ _ _ _ _ _ _ _ _ _ _ _ _ _ _ _ _ _ _ _ _ _ _ _ _ _ _ _ _ _ _ _ _ _ _ _ _ _ _ _ _ _ _ _ _ _ _ _ _ _ _ _ _ _ _ _ _ _ _ _ _ _ _ _ _ _ _ _ _ _ _ _ _ _ _ _ _ _ _ _ _ _ _ _ _ _ _ _ _ _ _ _ _ _ _ _ _ _ _ _ _ _ _ _ _ _ _ _ _ _ _ _ _ _ _ _ _ _ _ _ _ _ _ _ _ _ _ _ _ _ _ _ _ _ _ _ _ _ _ _ _ _ _ _ _ _ _ _ _ _ _ _ _ _ _ _ _ _ _ _ _ _ _ _ X bC g1 g2 g4 P M d i k jn cap1 cap2 cap4 HV A2 K2 P2 L2 A4 K4 P4 L4 (F jj) _ hi hi0 hjM hj0 (keepc BX c1) (keepc BX c3) (keepc BX n1) (keepc BX n3) HQ1.out.1 HQ1.out.2.1 HQ1.out.2.2.1 HQ1.out.2.2.2 (hid1 ?_)
      intro Y v31 v393 v394 v395 v396 v397 v398 v399 v400 v401 v402 v403 v404 v405 v406 v407 v408 v409 v410 v411 v412 v413 v414 v415 v416 v417 v418 v419 v420 v421 v422 v423 v424 v425 v426 v427 v428 v429 v430 v431 v432 v433 v434 v435 v436 v437 v438 v439 v440 v441 v442 v443 v444 v445 v446 v447 v448 v449 v450 v451 v452 v453 v454 v455 v456 v457 v458 v459 v460 v461 v462 v463 v464 v465 v466 v467 v468 v469 v470 v471 v472 v473 v474 v475 v476 v477 v478 v479 v480 v481 v482 v483 v484 v485 v486 v487 v488 v489 v490 v491 v492 v493 v494 v495 v496 v497 v498 v499 v500 v501 v502 v503 v504 v505 v506 BY
      go_wp2_with fail
      exact ⟨⟨jj + 1, by omega, by rw [← ejn]; go_num, bl_step BX BY⟩, by simp [intOf]; omega⟩
    · have hl1 : ¬ (jn : Int) < (kd1 : Int) := by omega
      go_wp2_with fail
      exact hQ.out _ _ _ _ _ _ _ _ _ _ _ _ _ _ _ _ _ _ _ _ _ _ _ _ _ _ _ _ _ _ _ _ _ _ _ _ _ _ _ _ _ _ _ _ _ _ _ _ _ _ _ _ _ _ _ _ _ _ _ _ _ _ _ _ _ _ _ _ _ _ _ _ _ _ _ _ _ _ _ _ _ _ _ _ _ _ _ _ _ _ _ _ _ _ _ _ _ _ _ _ _ _ _ _ _ _ _ _ _ _ _ _ _ _ _ _ _ _ _ _ _ _ _ _ _ _ BX
end Go.Proofs.Ythjebjhepdclkaa
/- PatchMoved: words of patches in memory. -/
namespace Go.Proofs.Ythjebjhepdclkaa
open Go.RowKit Go.Shelf

theorem wr_cellQ {W : World} {G m N : Nat} (h : Wr W (some ⟨G, 0, none⟩) m N) {k : Nat} (hk : k < m) : W.cell? ⟨G, k, none⟩ = some (.int .u64 ((wd N k : Nat) : Int)) := by
  obtain ⟨g, o, e, c⟩ := h.2 k hk
  cases e
  rw [Nat.zero_add] at c
  exact c
def yQ (i Bq SY T : Nat) : Int := ((i / Bq : Nat) : Int) * SY - T
/-- The words of a patch with a border and of one without. -/
structure Mr (W : World) (H V C N R S SY SX T L Bq d i : Nat) (A2 P2 A4 P4 : Nat) : Prop where
  m2 : ∀ k, k < R * S → ∀ jj, jj < d → W.cell? ⟨P2, k * d + jj, none⟩ = some (.int .u64 ((wd (ful C) jj : Nat) : Int))
  m4 : ∀ k, k < R * S → ∀ jj, jj < d → W.cell? ⟨P4, k * d + jj, none⟩ = some (.int .u64 ((wd (mkP H V C (yQ i Bq SY T) (((i % Bq : Nat) : Int) * SX - L) S 0 k) jj : Nat) : Int))
  s2 : ∀ k, k < R * S → ∀ jj, jj < d → W.cell? ⟨A2, k * d + jj, none⟩ = some (.int .u64 ((wd (plP H V d N (yQ i Bq SY T) (((i % Bq : Nat) : Int) * SX - L) S (ful C) k) jj : Nat) : Int))
  s4 : ∀ k, k < R * S → ∀ jj, jj < d → W.cell? ⟨A4, k * d + jj, none⟩ = some (.int .u64 ((wd (plP H V d N (yQ i Bq SY T) (((i % Bq : Nat) : Int) * SX - L) S 0 k) jj : Nat) : Int))
theorem Mr.of {W : World} {H V C N R S SY SX T L Bq d M i A2 P2 A4 P4 : Nat} (hd : nw C = d) (hM : R * S * nw C = M) (a : Wr W (some ⟨A2, 0, none⟩) M (seS H V C N S R SY SX T L Bq (ful C) i)) (b : Wr W (some ⟨P2, 0, none⟩) M (seM H V C S R SY SX T L Bq (ful C) i)) (c : Wr W (some ⟨A4, 0, none⟩) M (seS H V C N S R SY SX T L Bq 0 i)) (e : Wr W (some ⟨P4, 0, none⟩) M (seM H V C S R SY SX T L Bq 0 i)) : Mr W H V C N R S SY SX T L Bq d i A2 P2 A4 P4 := by
  subst hd
  have z : (0 : Nat) < 2 ^ (64 * nw C) := Nat.two_pow_pos _
  have lt : ∀ {k jj}, k < R * S → jj < nw C → k * nw C + jj < M := fun hk hj => by rw [← hM]; exact lt_placeQ hk hj
  refine ⟨fun k hk jj hj => ?_, fun k hk jj hj => ?_, fun k hk jj hj => ?_, fun k hk jj hj => ?_⟩
  · have := wr_cellQ b (lt hk hj)
    rw [seM_wd (ful_words C) hk hj] at this
    rw [this]
    unfold mkP
    split <;> rfl
  · have := wr_cellQ e (lt hk hj)
    rw [seM_wd z hk hj] at this
    exact this
  · have := wr_cellQ a (lt hk hj)
    rw [seS_wd (ful_words C) hk hj] at this
    exact this
  · have := wr_cellQ c (lt hk hj)
    rw [seS_wd z hk hj] at this
    exact this
/-- The places, one by one. -/
def On (W : World) (g1 HV d N : Nat) : Prop := ∀ p, p < HV → ∃ A1 K1, W.cell? ⟨g1, p * 4 + 1, none⟩ = some (.slice (some ⟨A1, 0, none⟩) d K1) ∧ ∀ jj, jj < d → W.cell? ⟨A1, jj, none⟩ = some (.int .u64 ((wd (pl N d p) jj : Nat) : Int))
theorem On.of {W : World} {g1 HV d H V C N : Nat} (hd : nw C = d) (hV : 0 < V) (hHV : H * V = HV) (h : Prw W g1 HV d (seS H V C N 1 1 1 1 0 0 V 0) (seM H V C 1 1 1 1 0 0 V 0)) : On W g1 HV d N := fun p hp => by
  subst hd
  obtain ⟨A1, K1, _, _, ⟨_, c1, _, _⟩, w1, _⟩ := h p hp
  refine ⟨A1, K1, c1, fun jj hj => ?_⟩
  have := wr_cellQ w1 hj
  rw [see_one hV (by rw [hHV]; exact hp) jj hj] at this
  exact this
theorem Mr.below {W X : World} {H V C N R S SY SX T L Bq d i A2 P2 A4 P4 : Nat} (h : Mr W H V C N R S SY SX T L Bq d i A2 P2 A4 P4) (hb : Below W.heap.size W X) : Mr X H V C N R S SY SX T L Bq d i A2 P2 A4 P4 :=
  ⟨fun k hk jj hj => keepc hb (h.m2 k hk jj hj), fun k hk jj hj => keepc hb (h.m4 k hk jj hj), fun k hk jj hj => keepc hb (h.s2 k hk jj hj), fun k hk jj hj => keepc hb (h.s4 k hk jj hj)⟩
theorem On.below {W X : World} {g1 HV d N : Nat} (h : On W g1 HV d N) (hb : Below W.heap.size W X) : On X g1 HV d N := fun p hp => by
  obtain ⟨A1, K1, c, w⟩ := h p hp
  exact ⟨A1, K1, keepc hb c, fun jj hj => keepc hb (w jj hj)⟩
/-- A place that lies within, and one that doesn't. -/
theorem pl_in {H V d N S k : Nat} {y0 x0 : Int} {yy xx kq km : Nat} (e1 : k / S = kq) (e2 : k % S = km) (hy : y0 + (kq : Int) = (yy : Int)) (hx : x0 + (km : Int) = (xx : Int)) (h1 : yy < H) (h2 : xx < V) (xs : Nat) : plP H V d N y0 x0 S xs k = pl N d (yy * V + xx) := by
  unfold plP
  have hin : Ins H V y0 x0 S k := by unfold Ins; rw [e1, e2]; omega
  rw [if_pos hin]
  have : ixP V y0 x0 S k = yy * V + xx := by unfold ixP; rw [e1, e2, hy, hx]; simp
  rw [this]
theorem mk_in {H V C S k : Nat} {y0 x0 : Int} {yy xx kq km : Nat} (e1 : k / S = kq) (e2 : k % S = km) (hy : y0 + (kq : Int) = (yy : Int)) (hx : x0 + (km : Int) = (xx : Int)) (h1 : yy < H) (h2 : xx < V) (xm : Nat) : mkP H V C y0 x0 S xm k = ful C := by
  unfold mkP
  have hin : Ins H V y0 x0 S k := by unfold Ins; rw [e1, e2]; omega
  rw [if_pos hin]
theorem pl_out {H V d N S k : Nat} {y0 x0 : Int} {kq km : Nat} (e1 : k / S = kq) (e2 : k % S = km) (h : ¬ ((0 ≤ y0 + (kq : Int) ∧ y0 + (kq : Int) < H) ∧ (0 ≤ x0 + (km : Int) ∧ x0 + (km : Int) < V))) (xs : Nat) : plP H V d N y0 x0 S xs k = xs := by
  unfold plP
  have hin : ¬ Ins H V y0 x0 S k := by unfold Ins; rw [e1, e2]; exact h
  rw [if_neg hin]
theorem mk_out {H V C S k : Nat} {y0 x0 : Int} {kq km : Nat} (e1 : k / S = kq) (e2 : k % S = km) (h : ¬ ((0 ≤ y0 + (kq : Int) ∧ y0 + (kq : Int) < H) ∧ (0 ≤ x0 + (km : Int) ∧ x0 + (km : Int) < V))) (xm : Nat) : mkP H V C y0 x0 S xm k = xm := by
  unfold mkP
  have hin : ¬ Ins H V y0 x0 S k := by unfold Ins; rw [e1, e2]; exact h
  rw [if_neg hin]
theorem wd_zeroQ (jj : Nat) : wd 0 jj = 0 := by simp [wd]
end Go.Proofs.Ythjebjhepdclkaa
/- PatchMoved: all places of a patch. -/
namespace Go.Proofs.Ythjebjhepdclkaa
open Go.RowKit Go.Shelf

attribute [local go_sem ↓] Go.wp_at_zero Go.wp_at_succ
set_option maxHeartbeats 12800000 in
set_option maxRecDepth 100000 in
theorem pm_b4 (u0 u1 u2 u3 u4 u5 u6 u7 u9 u10 u12 u13 u14 u15 u16 u18 u19 u20 u23 u27 u28 u29 u30 u31 u32 u33 u34 u35 u36 u37 u38 u39 u40 u41 u42 u43 u44 u45 u46 u47 u48 u49 u50 u51 u52 u53 u54 u55 u56 u57 u58 u59 u60 u61 u62 u63 u64 u65 u66 u67 u68 u69 u70 u71 u72 u73 u74 u75 u76 u77 u78 u79 u80 u81 u82 u83 u84 u85 u86 u87 u88 u89 u90 u91 u92 u93 u94 u95 u96 u97 u98 u99 u100 u101 u102 u103 u104 u105 u106 u107 u108 u109 u110 u111 u112 u113 u114 u115 u116 u117 u118 u119 u120 u121 u122 u123 u124 u125 u126 u127 u128 u129 u130 u131 u132 u133 u134 u135 u136 u137 u138 u139 u140 u141 u142 u143 u144 u145 u146 u147 u148 u149 u150 u151 u152 u153 u154 u155 u156 u157 u158 u159 u160 u161 u162 u163 u164 u165 u166 u167 u168 u169 u170 u171 u172 u173 u174 u175 u176 u177 u178 u179 u180 u181 u182 u183 u184 u185 u186 u187 u188 u189 u190 u191 u192 u193 u194 u195 u196 u197 u198 u199 u200 u201 u202 u203 u204 u205 u206 u207 u208 u209 u210 u211 u212 u213 u214 u215 u216 u217 u218 u219 u220 u221 u222 u223 u224 u225 u226 u227 u228 u229 u230 u231 u232 u233 u234 u235 u236 u237 u238 u239 u240 u241 u242 u243 u244 u245 u246 u247 u248 u249 u250 u251 u252 u253 u254 u255 u256 u257 u258 u259 u260 u261 u262 u263 u264 u265 u266 u267 u268 u269 u270 u271 u272 u273 u274 u275 u276 u277 u278 u279 u280 u281 u282 u283 u284 u285 u286 u287 u288 u289 u290 u291 u292 u293 u294 u295 u296 u297 u298 u299 u300 u301 u302 u303 u304 u305 u306 u307 u308 u309 u310 u311 u312 u313 u314 u315 u316 u317 u318 u319 u320 u321 u322 u323 u324 u325 u326 u327 u328 u329 u330 u331 u332 u333 u334 u335 u336 u337 u338 u339 u340 u341 u342 u343 u344 u345 u346 u347 u348 u349 u350 u351 u352 u353 u354 u355 u356 u357 u358 u359 u360 u361 u362 u363 u364 u365 u366 u367 u368 u369 u370 u371 u372 u373 u374 u375 u376 u377 u378 u379 u380 u381 u382 u383 u384 u385 u386 u387 u388 u389 u390 u391 u392 u393 u394 u395 u396 u397 u398 u399 u400 u401 u402 u403 u404 u405 u406 u407 u408 u409 u410 u411 u412 u413 u414 u415 u416 u417 u418 u419 u420 u421 u422 u423 u424 u425 u426 u427 u428 u429 u430 u431 u432 u433 u434 u435 u436 u437 u438 u439 u440 u441 u442 u443 u444 u445 u446 u447 u448 u449 u450 u451 u452 u453 u454 u455 u456 u457 u458 u459 u460 u461 u462 u463 u464 u465 u466 u467 u468 u469 u470 u471 u472 u473 u474 u475 u476 u477 u478 u479 u480 u481 u482 u483 u484 u485 u486 u487 u488 u489 u490 u491 u492 u493 u494 u495 u496 u497 u498 u499 u500 u501 u502 u503 u504 u505 u506 : Value) (W : World) (bC b22 g1 g2 g4 P M d i : Nat) (cap1 cap2 cap4 HV : Nat) (A2 K2 P2 L2 A4 K4 P4 L4 : Nat) (H V C N R S SY SX T L Bq RS : Nat) (Q : Exit → Act → World → Prop)
    (hi : (i : Int) < (P : Int)) (hi0 : (0 : Int) ≤ (i : Int)) (hM : M ≤ 1000000) (hRS : R * S = RS) (hRSM : RS * d = M) (hHV : H * V = HV) (hB0 : 0 < Bq) (hS0 : 0 < S) (hd2 : d ≤ 2)
    (bi : i ≤ 1000) (bB : Bq ≤ 1000) (bR : RS ≤ 1000) (bS : S ≤ 1000) (bY : SY ≤ 4) (bX : SX ≤ 4) (bT : T ≤ 3) (bL : L ≤ 3) (bH : H ≤ 6) (bV : V ≤ 6)
    (k0 : W.cell? ⟨bC, 0, none⟩ = some (.int .i64 (H : Int))) (k1 : W.cell? ⟨bC, 1, none⟩ = some (.int .i64 (V : Int))) (k2 : W.cell? ⟨bC, 2, none⟩ = some (.int .i64 (C : Int))) (k4 : W.cell? ⟨bC, 4, none⟩ = some (.int .i64 (R : Int))) (k5 : W.cell? ⟨bC, 5, none⟩ = some (.int .i64 (S : Int))) (k6 : W.cell? ⟨bC, 6, none⟩ = some (.int .i64 (SY : Int))) (k7 : W.cell? ⟨bC, 7, none⟩ = some (.int .i64 (SX : Int))) (k8 : W.cell? ⟨bC, 8, none⟩ = some (.int .i64 (T : Int))) (k9 : W.cell? ⟨bC, 9, none⟩ = some (.int .i64 (L : Int))) (t1 : W.cell? ⟨b22, 1, none⟩ = some (.int .i64 (Bq : Int)))
    (c1 : W.cell? ⟨g2, i * 4 + 1, none⟩ = some (.slice (some ⟨A2, 0, none⟩) M K2)) (c3 : W.cell? ⟨g2, i * 4 + 3, none⟩ = some (.slice (some ⟨P2, 0, none⟩) M L2)) (n1 : W.cell? ⟨g4, i * 4 + 1, none⟩ = some (.slice (some ⟨A4, 0, none⟩) M K4)) (n3 : W.cell? ⟨g4, i * 4 + 3, none⟩ = some (.slice (some ⟨P4, 0, none⟩) M L4))
    (HMR : Hid (Mr W H V C N R S SY SX T L Bq d i A2 P2 A4 P4)) (HON : Hid (On W g1 HV d N))
    (hQ : Hid (∀ (Y : World) (v6 v26 v27 v28 v29 v30 v31 v315 v316 v317 v318 v319 v320 v321 v322 v323 v324 v325 v326 v327 v328 v329 v330 v331 v332 v333 v334 v335 v336 v337 v338 v339 v340 v341 v342 v343 v344 v345 v346 v347 v348 v349 v350 v351 v352 v353 v354 v355 v356 v357 v358 v359 v360 v361 v362 v363 v364 v365 v366 v367 v368 v369 v370 v371 v372 v373 v374 v375 v376 v377 v378 v379 v380 v381 v382 v383 v384 v385 v386 v387 v388 v389 v390 v391 v392 v393 v394 v395 v396 v397 v398 v399 v400 v401 v402 v403 v404 v405 v406 v407 v408 v409 v410 v411 v412 v413 v414 v415 v416 v417 v418 v419 v420 v421 v422 v423 v424 v425 v426 v427 v428 v429 v430 v431 v432 v433 v434 v435 v436 v437 v438 v439 v440 v441 v442 v443 v444 v445 v446 v447 v448 v449 v450 v451 v452 v453 v454 v455 v456 v457 v458 v459 v460 v461 v462 v463 v464 v465 v466 v467 v468 v469 v470 v471 v472 v473 v474 v475 v476 v477 v478 v479 v480 v481 v482 v483 v484 v485 v486 v487 v488 v489 v490 v491 v492 v493 v494 v495 v496 v497 v498 v499 v500 v501 v502 v503 v504 v505 v506 : Value), Below W.heap.size W Y → Q .normal ⟨#[u0, u1, u2, u3, u4, u5, v6, u7, .pointer (some ⟨bC, 0, none⟩), u9, u10, .slice (some ⟨g1, 0, none⟩) HV cap1, u12, u13, u14, u15, u16, .slice (some ⟨g2, 0, none⟩) P cap2, u18, u19, u20, .slice (some ⟨g4, 0, none⟩) P cap4, .pointer (some ⟨b22, 0, none⟩), u23, .int .i64 (d : Int), .int .i64 (i : Int), v26, v27, v28, v29, v30, v31, u32, u33, u34, u35, u36, u37, u38, u39, u40, u41, u42, u43, u44, u45, u46, u47, u48, u49, u50, u51, u52, u53, u54, u55, u56, u57, u58, u59, u60, u61, u62, u63, u64, u65, u66, u67, u68, u69, u70, u71, u72, u73, u74, u75, u76, u77, u78, u79, u80, u81, u82, u83, u84, u85, u86, u87, u88, u89, u90, u91, u92, u93, u94, u95, u96, u97, u98, u99, u100, u101, u102, u103, u104, u105, u106, u107, u108, u109, u110, u111, u112, u113, u114, u115, u116, u117, u118, u119, u120, u121, u122, u123, u124, u125, u126, u127, u128, u129, u130, u131, u132, u133, u134, u135, u136, u137, u138, u139, u140, u141, u142, u143, u144, u145, u146, u147, u148, u149, u150, u151, u152, u153, u154, u155, u156, u157, u158, u159, u160, u161, u162, u163, u164, u165, u166, u167, u168, u169, u170, u171, u172, u173, u174, u175, u176, u177, u178, u179, u180, u181, u182, u183, u184, u185, u186, u187, u188, u189, u190, u191, u192, u193, u194, u195, u196, u197, u198, u199, u200, u201, u202, u203, u204, u205, u206, u207, u208, u209, u210, u211, u212, u213, u214, u215, u216, u217, u218, u219, u220, u221, u222, u223, u224, u225, u226, u227, u228, u229, u230, u231, u232, u233, u234, u235, u236, u237, u238, u239, u240, u241, u242, u243, u244, u245, u246, u247, u248, u249, u250, u251, u252, u253, u254, u255, u256, u257, u258, u259, u260, u261, u262, u263, u264, u265, u266, u267, u268, u269, u270, u271, u272, u273, u274, u275, u276, u277, u278, u279, u280, u281, u282, u283, u284, u285, u286, u287, u288, u289, u290, u291, u292, u293, u294, u295, u296, u297, u298, u299, u300, u301, u302, u303, u304, u305, u306, u307, u308, u309, u310, u311, u312, u313, u314, v315, v316, v317, v318, v319, v320, v321, v322, v323, v324, v325, v326, v327, v328, v329, v330, v331, v332, v333, v334, v335, v336, v337, v338, v339, v340, v341, v342, v343, v344, v345, v346, v347, v348, v349, v350, v351, v352, v353, v354, v355, v356, v357, v358, v359, v360, v361, v362, v363, v364, v365, v366, v367, v368, v369, v370, v371, v372, v373, v374, v375, v376, v377, v378, v379, v380, v381, v382, v383, v384, v385, v386, v387, v388, v389, v390, v391, v392, v393, v394, v395, v396, v397, v398, v399, v400, v401, v402, v403, v404, v405, v406, v407, v408, v409, v410, v411, v412, v413, v414, v415, v416, v417, v418, v419, v420, v421, v422, v423, v424, v425, v426, v427, v428, v429, v430, v431, v432, v433, v434, v435, v436, v437, v438, v439, v440, v441, v442, v443, v444, v445, v446, v447, v448, v449, v450, v451, v452, v453, v454, v455, v456, v457, v458, v459, v460, v461, v462, v463, v464, v465, v466, v467, v468, v469, v470, v471, v472, v473, v474, v475, v476, v477, v478, v479, v480, v481, v482, v483, v484, v485, v486, v487, v488, v489, v490, v491, v492, v493, v494, v495, v496, v497, v498, v499, v500, v501, v502, v503, v504, v505, v506], []⟩ Y)) :
    Code.wp Try.prog pmB4 Q ⟨#[u0, u1, u2, u3, u4, u5, u6, u7, .pointer (some ⟨bC, 0, none⟩), u9, u10, .slice (some ⟨g1, 0, none⟩) HV cap1, u12, u13, u14, u15, u16, .slice (some ⟨g2, 0, none⟩) P cap2, u18, u19, u20, .slice (some ⟨g4, 0, none⟩) P cap4, .pointer (some ⟨b22, 0, none⟩), u23, .int .i64 (d : Int), .int .i64 (i : Int), .int .i64 0, u27, u28, u29, u30, u31, u32, u33, u34, u35, u36, u37, u38, u39, u40, u41, u42, u43, u44, u45, u46, u47, u48, u49, u50, u51, u52, u53, u54, u55, u56, u57, u58, u59, u60, u61, u62, u63, u64, u65, u66, u67, u68, u69, u70, u71, u72, u73, u74, u75, u76, u77, u78, u79, u80, u81, u82, u83, u84, u85, u86, u87, u88, u89, u90, u91, u92, u93, u94, u95, u96, u97, u98, u99, u100, u101, u102, u103, u104, u105, u106, u107, u108, u109, u110, u111, u112, u113, u114, u115, u116, u117, u118, u119, u120, u121, u122, u123, u124, u125, u126, u127, u128, u129, u130, u131, u132, u133, u134, u135, u136, u137, u138, u139, u140, u141, u142, u143, u144, u145, u146, u147, u148, u149, u150, u151, u152, u153, u154, u155, u156, u157, u158, u159, u160, u161, u162, u163, u164, u165, u166, u167, u168, u169, u170, u171, u172, u173, u174, u175, u176, u177, u178, u179, u180, u181, u182, u183, u184, u185, u186, u187, u188, u189, u190, u191, u192, u193, u194, u195, u196, u197, u198, u199, u200, u201, u202, u203, u204, u205, u206, u207, u208, u209, u210, u211, u212, u213, u214, u215, u216, u217, u218, u219, u220, u221, u222, u223, u224, u225, u226, u227, u228, u229, u230, u231, u232, u233, u234, u235, u236, u237, u238, u239, u240, u241, u242, u243, u244, u245, u246, u247, u248, u249, u250, u251, u252, u253, u254, u255, u256, u257, u258, u259, u260, u261, u262, u263, u264, u265, u266, u267, u268, u269, u270, u271, u272, u273, u274, u275, u276, u277, u278, u279, u280, u281, u282, u283, u284, u285, u286, u287, u288, u289, u290, u291, u292, u293, u294, u295, u296, u297, u298, u299, u300, u301, u302, u303, u304, u305, u306, u307, u308, u309, u310, u311, u312, u313, u314, u315, u316, u317, u318, u319, u320, u321, u322, u323, u324, u325, u326, u327, u328, u329, u330, u331, u332, u333, u334, u335, u336, u337, u338, u339, u340, u341, u342, u343, u344, u345, u346, u347, u348, u349, u350, u351, u352, u353, u354, u355, u356, u357, u358, u359, u360, u361, u362, u363, u364, u365, u366, u367, u368, u369, u370, u371, u372, u373, u374, u375, u376, u377, u378, u379, u380, u381, u382, u383, u384, u385, u386, u387, u388, u389, u390, u391, u392, u393, u394, u395, u396, u397, u398, u399, u400, u401, u402, u403, u404, u405, u406, u407, u408, u409, u410, u411, u412, u413, u414, u415, u416, u417, u418, u419, u420, u421, u422, u423, u424, u425, u426, u427, u428, u429, u430, u431, u432, u433, u434, u435, u436, u437, u438, u439, u440, u441, u442, u443, u444, u445, u446, u447, u448, u449, u450, u451, u452, u453, u454, u455, u456, u457, u458, u459, u460, u461, u462, u463, u464, u465, u466, u467, u468, u469, u470, u471, u472, u473, u474, u475, u476, u477, u478, u479, u480, u481, u482, u483, u484, u485, u486, u487, u488, u489, u490, u491, u492, u493, u494, u495, u496, u497, u498, u499, u500, u501, u502, u503, u504, u505, u506], []⟩ W := by
  conv => arg 2; whnf
  obtain ⟨iq, eiq⟩ : ∃ x, i / Bq = x := ⟨_, rfl⟩
  obtain ⟨im, eim⟩ : ∃ x, i % Bq = x := ⟨_, rfl⟩
  have biq : iq ≤ i := by rw [← eiq]; exact Nat.div_le_self _ _
  have bim : im < Bq := by rw [← eim]; exact Nat.mod_lt _ hB0
  have iqd : (i : Int) / (Bq : Int) = (iq : Int) := by rw [← eiq]; simp
  have iqt : (i : Int).tdiv (Bq : Int) = (iq : Int) := by rw [Int.tdiv_eq_ediv_of_nonneg (by omega)]; exact iqd
  have imd : (i : Int) % (Bq : Int) = (im : Int) := by rw [← eim]; simp
  have imt : (i : Int).tmod (Bq : Int) = (im : Int) := by rw [Int.tmod_eq_emod_of_nonneg (by omega)]; exact imd
  have wiq : IntKind.i64.wrap (iq : Int) = (iq : Int) := by rw [IntKind.wrap_i64]; omega
  have nB : ¬ (Bq : Int) = 0 := by omega
  have nS : ¬ (S : Int) = 0 := by omega
  obtain ⟨a1, ea1⟩ : ∃ x, iq * SY = x := ⟨_, rfl⟩
  obtain ⟨e1, ee1⟩ : ∃ x, im * SX = x := ⟨_, rfl⟩
  have ba1 : a1 ≤ 4000 := by rw [← ea1]; exact Nat.le_trans (Nat.mul_le_mul (show iq ≤ 1000 by omega) bY) (by omega)
  have be1 : e1 ≤ 4000 := by rw [← ee1]; exact Nat.le_trans (Nat.mul_le_mul (show im ≤ 1000 by omega) bX) (by omega)
  have wa1 : IntKind.i64.wrap ((iq : Int) * (SY : Int)) = (a1 : Int) := by rw [show (iq : Int) * (SY : Int) = ((iq * SY : Nat) : Int) by push_cast; rfl, ea1, IntKind.wrap_i64]; omega
  have we1 : IntKind.i64.wrap ((im : Int) * (SX : Int)) = (e1 : Int) := by rw [show (im : Int) * (SX : Int) = ((im * SX : Nat) : Int) by push_cast; rfl, ee1, IntKind.wrap_i64]; omega
  have ey0 : yQ i Bq SY T = (a1 : Int) - T := by unfold yQ; rw [eiq, ← ea1]; push_cast; rfl
  have ex0 : (((i % Bq : Nat) : Int) * SX - L) = (e1 : Int) - L := by rw [eim, ← ee1]; push_cast; rfl
  have wRS : IntKind.i64.wrap ((R : Int) * (S : Int)) = (RS : Int) := by rw [show (R : Int) * (S : Int) = ((R * S : Nat) : Int) by push_cast; rfl, hRS, IntKind.wrap_i64]; omega
  have HEI := hid1 (And.intro ey0 ex0)
  clear ey0 ex0 eiq eim ea1 ee1
  have HK : Hid (∀ Y, Below W.heap.size W Y → Y.cell? ⟨bC, 0, none⟩ = some (.int .i64 (H : Int)) ∧ Y.cell? ⟨bC, 1, none⟩ = some (.int .i64 (V : Int)) ∧ Y.cell? ⟨bC, 2, none⟩ = some (.int .i64 (C : Int)) ∧ Y.cell? ⟨bC, 4, none⟩ = some (.int .i64 (R : Int)) ∧ Y.cell? ⟨bC, 5, none⟩ = some (.int .i64 (S : Int)) ∧ Y.cell? ⟨bC, 6, none⟩ = some (.int .i64 (SY : Int)) ∧ Y.cell? ⟨bC, 7, none⟩ = some (.int .i64 (SX : Int)) ∧ Y.cell? ⟨bC, 8, none⟩ = some (.int .i64 (T : Int)) ∧ Y.cell? ⟨bC, 9, none⟩ = some (.int .i64 (L : Int)) ∧ Y.cell? ⟨b22, 1, none⟩ = some (.int .i64 (Bq : Int))) := hid1 (fun Y hb => ⟨keepc hb k0, keepc hb k1, keepc hb k2, keepc hb k4, keepc hb k5, keepc hb k6, keepc hb k7, keepc hb k8, keepc hb k9, keepc hb t1⟩)
  have HCN : Hid (∀ Y, Below W.heap.size W Y → Y.cell? ⟨g2, i * 4 + 1, none⟩ = some (.slice (some ⟨A2, 0, none⟩) M K2) ∧ Y.cell? ⟨g2, i * 4 + 3, none⟩ = some (.slice (some ⟨P2, 0, none⟩) M L2) ∧ Y.cell? ⟨g4, i * 4 + 1, none⟩ = some (.slice (some ⟨A4, 0, none⟩) M K4) ∧ Y.cell? ⟨g4, i * 4 + 3, none⟩ = some (.slice (some ⟨P4, 0, none⟩) M L4)) := hid1 (fun Y hb => ⟨keepc hb c1, keepc hb c3, keepc hb n1, keepc hb n3⟩)
  clear c1 c3 n1 n3
  go_wp2_with fail
  dsimp only
  go_loopw [26, 27, 28, 29, 30, 31] (fun k _ _ _ _ _ wr => ∃ kk : Nat, kk ≤ RS ∧ k = .int .i64 (kk : Int) ∧ Below W.heap.size W wr) (fun k _ _ _ _ _ _ => RS - (intOf k).toNat)
  case atStart => exact ⟨0, Nat.zero_le _, rfl, Below.refl _ _⟩
  case round =>
    obtain ⟨k, hkr, rfl, BX⟩ := hrel
    rename World => X
    have k00 : (0 : Int) ≤ (k : Int) := by omega
    by_cases hlt : k < RS
    · have hk1 : (k : Int) < (RS : Int) := by omega
      obtain ⟨kq, ekq⟩ : ∃ x, k / S = x := ⟨_, rfl⟩
      obtain ⟨km, ekm⟩ : ∃ x, k % S = x := ⟨_, rfl⟩
      have bkq : kq ≤ k := by rw [← ekq]; exact Nat.div_le_self _ _
      have bkm : km < S := by rw [← ekm]; exact Nat.mod_lt _ hS0
      have kqd : (k : Int) / (S : Int) = (kq : Int) := by rw [← ekq]; simp
      have kqt : (k : Int).tdiv (S : Int) = (kq : Int) := by rw [Int.tdiv_eq_ediv_of_nonneg (by omega)]; exact kqd
      have kmd : (k : Int) % (S : Int) = (km : Int) := by rw [← ekm]; simp
      have kmt : (k : Int).tmod (S : Int) = (km : Int) := by rw [Int.tmod_eq_emod_of_nonneg (by omega)]; exact kmd
      have wkq : IntKind.i64.wrap (kq : Int) = (kq : Int) := by rw [IntKind.wrap_i64]; omega
      have wy1 : IntKind.i64.wrap ((a1 : Int) + (kq : Int)) = (a1 : Int) + (kq : Int) := by rw [IntKind.wrap_i64]; omega
      have wx1 : IntKind.i64.wrap ((e1 : Int) + (km : Int)) = (e1 : Int) + (km : Int) := by rw [IntKind.wrap_i64]; omega
      obtain ⟨yI, eyI⟩ : ∃ x : Int, (a1 : Int) + (kq : Int) - (T : Int) = x := ⟨_, rfl⟩
      obtain ⟨xI, exI⟩ : ∃ x : Int, (e1 : Int) + (km : Int) - (L : Int) = x := ⟨_, rfl⟩
      have wy2 : IntKind.i64.wrap ((a1 : Int) + (kq : Int) - (T : Int)) = yI := by rw [IntKind.wrap_i64]; omega
      have wx2 : IntKind.i64.wrap ((e1 : Int) + (km : Int) - (L : Int)) = xI := by rw [IntKind.wrap_i64]; omega
      have HYX : Hid ((a1 : Int) + (kq : Int) - (T : Int) = yI ∧ (e1 : Int) + (km : Int) - (L : Int) = xI ∧ k / S = kq ∧ k % S = km) := hid1 ⟨eyI, exI, ekq, ekm⟩
      clear eyI exI ekq ekm
      obtain ⟨k0, k1, k2, k4, k5, k6, k7, k8, k9, t1⟩ := HK.out X BX
      have hkRS : k < R * S := by rw [hRS]; exact hlt
      obtain ⟨kd, ekd⟩ : ∃ x, k * d = x := ⟨_, rfl⟩
      obtain ⟨kd1, ekd1⟩ : ∃ x, (k + 1) * d = x := ⟨_, rfl⟩
      have hk3 : kd + d = kd1 := by rw [← ekd, ← ekd1, Nat.succ_mul]
      have hkM : kd1 ≤ M := by rw [← ekd1, ← hRSM]; exact Nat.mul_le_mul_right _ hlt
      obtain ⟨kn, ekn⟩ : ∃ x, k + 1 = x := ⟨_, rfl⟩
      have wk1 : IntKind.i64.wrap ((k : Int) + 1) = (kn : Int) := by rw [IntKind.wrap_i64]; omega
      have wkd : IntKind.i64.wrap ((k : Int) * (d : Int)) = (kd : Int) := by rw [show (k : Int) * (d : Int) = ((k * d : Nat) : Int) by push_cast; rfl, ekd, IntKind.wrap_i64]; omega
      have wkd1 : IntKind.i64.wrap ((kn : Int) * (d : Int)) = (kd1 : Int) := by rw [← ekn, show ((k + 1 : Nat) : Int) * (d : Int) = (((k + 1) * d : Nat) : Int) by push_cast; rfl, ekd1, IntKind.wrap_i64]; omega
      go_upto_region 29 with fail
      go_cut [27] from 326 to 343 (fun s wx => s = .int .i64 yI ∧ Below X.heap.size X wx)
      case first =>
        go_quiet (fail)
        refine kmeet_of (by assumption) ?_
        go_meet
        exact ⟨rfl, (by repeat (first | (with_reducible exact Below.refl _ _) | (with_reducible refine Below.drew ?_) | (with_reducible refine bl_drewN ?_ _)))⟩
      case rest =>
        obtain ⟨rfl, hb1⟩ := hcut
        rename World => X1
        have BX1 := bl_step BX hb1
        clear k0 k1 k2 k4 k5 k6 k7 k8 k9 t1
        obtain ⟨k0, k1, k2, k4, k5, k6, k7, k8, k9, t1⟩ := HK.out X1 BX1
        go_upto_region 30 with fail
        go_cut [28] from 344 to 361 (fun s wx => s = .int .i64 xI ∧ Below X1.heap.size X1 wx)
        case first =>
          go_quiet (fail)
          refine kmeet_of (by assumption) ?_
          go_meet
          exact ⟨rfl, (by repeat (first | (with_reducible exact Below.refl _ _) | (with_reducible refine Below.drew ?_) | (with_reducible refine bl_drewN ?_ _)))⟩
        case rest =>
          obtain ⟨rfl, hb2⟩ := hcut
          rename World => X2
          have BX2 := bl_step BX1 hb2
          clear k0 k1 k2 k4 k5 k6 k7 k8 k9 t1
          obtain ⟨k0, k1, k2, k4, k5, k6, k7, k8, k9, t1⟩ := HK.out X2 BX2
          have MR := HMR.out.below BX2
          have ON := HON.out.below BX2
          obtain ⟨ey0, ex0⟩ := HEI.out
          obtain ⟨eyI, exI, ekq, ekm⟩ := HYX.out
          have eY : yQ i Bq SY T + (kq : Int) = yI := by rw [ey0]; omega
          have eX : (((i % Bq : Nat) : Int) * SX - L) + (km : Int) = xI := by rw [ex0]; omega
          have q2 : ∀ jj, jj < d → X2.cell? ⟨P2, kd + jj, none⟩ = some (.int .u64 ((wd (ful C) jj : Nat) : Int)) := fun jj hj => by have := MR.m2 k hkRS jj hj; rw [ekd] at this; exact this
          by_cases hin : (0 ≤ yI ∧ yI < (H : Int)) ∧ (0 ≤ xI ∧ xI < (V : Int))
          · obtain ⟨⟨i1, i2⟩, i3, i4⟩ := hin
            obtain ⟨yy, eyy⟩ : ∃ n : Nat, yI = (n : Int) := ⟨yI.toNat, by omega⟩
            obtain ⟨xx, exx⟩ : ∃ n : Nat, xI = (n : Int) := ⟨xI.toNat, by omega⟩
            rw [eyy] at eY i1 i2
            rw [exx] at eX i3 i4
            rw [eyy, exx]
            have hyH : yy < H := by omega
            have hxV : xx < V := by omega
            obtain ⟨yv, eyv⟩ : ∃ x, yy * V = x := ⟨_, rfl⟩
            obtain ⟨pp, epp⟩ : ∃ x, yv + xx = x := ⟨_, rfl⟩
            have hppH : pp < HV := by
              have : (yy + 1) * V ≤ H * V := Nat.mul_le_mul_right _ hyH
              rw [Nat.succ_mul, eyv, hHV] at this
              omega
            have byv : yv ≤ 36 := by rw [← eyv]; exact Nat.mul_le_mul (show yy ≤ 6 by omega) bV
            have wyv : IntKind.i64.wrap ((yy : Int) * (V : Int)) = (yv : Int) := by rw [show (yy : Int) * (V : Int) = ((yy * V : Nat) : Int) by push_cast; rfl, eyv, IntKind.wrap_i64]; omega
            have wpp : IntKind.i64.wrap ((yv : Int) + (xx : Int)) = (pp : Int) := by rw [IntKind.wrap_i64]; omega
            have q4 : ∀ jj, jj < d → X2.cell? ⟨P4, kd + jj, none⟩ = some (.int .u64 ((wd (ful C) jj : Nat) : Int)) := fun jj hj => by have := MR.m4 k hkRS jj hj; rw [ekd, mk_in ekq ekm eY eX hyH hxV] at this; exact this
            have r2 : ∀ jj, jj < d → X2.cell? ⟨A2, kd + jj, none⟩ = some (.int .u64 ((wd (pl N d pp) jj : Nat) : Int)) := fun jj hj => by have := MR.s2 k hkRS jj hj; rw [ekd, pl_in ekq ekm eY eX hyH hxV, eyv, epp] at this; exact this
            have r4 : ∀ jj, jj < d → X2.cell? ⟨A4, kd + jj, none⟩ = some (.int .u64 ((wd (pl N d pp) jj : Nat) : Int)) := fun jj hj => by have := MR.s4 k hkRS jj hj; rw [ekd, pl_in ekq ekm eY eX hyH hxV, eyv, epp] at this; exact this
            obtain ⟨A1, K1, o1, ow⟩ := ON pp hppH
            have HQ := hid1 (And.intro q2 (And.intro r2 (And.intro q4 (And.intro r4 (And.intro o1 (And.intro ow k1))))))
            clear q2 r2 q4 r4 o1 ow MR ON eY eX ey0 ex0 eyI exI ekq ekm eyv epp ekd ekd1 eyy exx wy2 wx2
            go_upto_block 6 with fail
            refine pm_b6t _ _ _ _ _ _ _ _ _ _ _ _ _ _ _ _ _ _ _ _ _ _ _ _ _ _ _ _ _ _ _ _ _ _ _ _ _ _ _ _ _ _ _ _ _ _ _ _ _ _ _ _ _ _ _ _ _ _ _ _ _ _ _ _ _ _ _ _ _ _ _ _ _ _ _ _ _ _ _ _ _ _ _ _ _ _ _ _ _ _ _ _ _ _ _ _ _ _ _ _ _ _ _ _ _ _ _ _ _ _ _ _ _ _ _ _ _ _ _ _ _ _ _ _ _ _ _ _ _ _ _ _ _ _ _ _ _ _ _ _ _ _ _ _ _ _ _ _ _ _ _ _ _ _ _ _ _ _ _ _ _ _ _ _ _ _ _ _ _ _ _ _ _ _ _ _ _ _ _ _ _ _ _ _ _ _ _ _ _ _ _ _ _ _ _ _ _ _ _ _ _ _ _ _ _ _ _ _ _ _ _ _ _ _ _ _ _ _ _ _ _ _ _ _ _ _ _ _ _ _ _ _ _ _ _ _ _ _ _ _ _ _ _ _ _ _ _ _ _ _ _ _ _ _ _ _ _ _ _ _ _ _ _ _ _ _ _ _ _ _ _ _ _ _ _ _ _ _ _ _ _ _ _ _ _ _ _ _ _ _ _ _ _ _ _ _ _ _ _ _ _ _ _ _ _ _ _ _ _ _ _ _ _ _ _ _ _ _ _ _ _ _ _ _ _ _ _ _ _ _ _ _ _ _ _ _ _ _ _ _ _ _ _ _ _ _ _ _ _ _ _ _ _ _ _ _ _ _ _ _ _ _ _ _ _ _ _ _ _ _ _ _ _ _ _ _ _ _ _ _ _ _ _ _ _ _ _ _ _ _ _ _ _ _ _ _ _ _ _ _ _ _ _ _ _ _ _ _ _ _ _ _ _ _ _ _ _ _ _ _ _ _ _ _ _ _ _ _ _ _ _ _ _ _ _ _ _ _ _ _ _ _ _ _ _ _ _ _ _ _ _ _ _ _ _ _ _ _ _ _ _ _ _ _ _ _ _ _ _ _ _ _ _ _ _ _ _ _ _ _ _ _ _ _ _ _ _ _ _ _ _ _ _ _ _ _ X2 bC g1 g2 g4 P M d i k kn kd kd1 cap1 cap2 cap4 HV A2 K2 P2 L2 A4 K4 P4 L4 (fun jj => wd (ful C) jj) (fun jj => wd (pl N d pp) jj) A1 K1 V yy xx yv pp _ hi hi0 hk3 hkM hM wk1 wkd1 (HCN.out X2 BX2).1 (HCN.out X2 BX2).2.1 (HCN.out X2 BX2).2.2.1 (HCN.out X2 BX2).2.2.2 HQ.out.1 HQ.out.2.1 HQ.out.2.2.1 HQ.out.2.2.2.1 HQ.out.2.2.2.2.1 HQ.out.2.2.2.2.2.1 HQ.out.2.2.2.2.2.2 wyv wpp wkd (by omega) (by omega) (hid1 ?_)
            intro Y v6 v30 v31 v385 v386 v387 v388 v389 v390 v391 v392 v393 v394 v395 v396 v397 v398 v399 v400 v401 v402 v403 v404 v405 v406 v407 v408 v409 v410 v411 v412 v413 v414 v415 v416 v417 v418 v419 v420 v421 v422 v423 v424 v425 v426 v427 v428 v429 v430 v431 v432 v433 v434 v435 v436 v437 v438 v439 v440 v441 v442 v443 v444 v445 v446 v447 v448 v449 v450 v451 v452 v453 v454 v455 v456 v457 v458 v459 v460 v461 v462 v463 v464 v465 v466 v467 v468 v469 v470 v471 v472 v473 v474 v475 v476 v477 v478 v479 v480 v481 v482 v483 v484 v485 v486 v487 v488 v489 v490 v491 v492 v493 v494 v495 v496 v497 v498 v499 v500 v501 v502 v503 v504 v505 v506 BY
            go_wp2_with fail
            exact ⟨⟨kn, by omega, by first | rfl | (rw [← ekn]; go_num), bl_step BX2 BY⟩, by simp [intOf]; omega⟩
          · have q4 : ∀ jj, jj < d → X2.cell? ⟨P4, kd + jj, none⟩ = some (.int .u64 0) := fun jj hj => by have := MR.m4 k hkRS jj hj; rw [ekd, mk_out ekq ekm (by rw [eY, eX]; exact hin), wd_zeroQ] at this; exact this
            have r2 : ∀ jj, jj < d → X2.cell? ⟨A2, kd + jj, none⟩ = some (.int .u64 ((wd (ful C) jj : Nat) : Int)) := fun jj hj => by have := MR.s2 k hkRS jj hj; rw [ekd, pl_out ekq ekm (by rw [eY, eX]; exact hin)] at this; exact this
            have r4 : ∀ jj, jj < d → X2.cell? ⟨A4, kd + jj, none⟩ = some (.int .u64 0) := fun jj hj => by have := MR.s4 k hkRS jj hj; rw [ekd, pl_out ekq ekm (by rw [eY, eX]; exact hin), wd_zeroQ] at this; exact this
            have HQ := hid1 (And.intro q2 (And.intro r2 (And.intro q4 r4)))
            clear q2 r2 q4 r4 MR ON eY eX ey0 ex0 eyI exI ekq ekm ekd ekd1 wy2 wx2
            go_upto_region 31 with fail
            go_cut [29] from 362 to 381 (fun s wx => s = .bool false ∧ wx = X2)
            case first =>
              by_cases i1 : 0 ≤ yI
              · by_cases i2 : yI < (H : Int)
                · by_cases i3 : 0 ≤ xI
                  · have i4 : ¬ xI < (V : Int) := fun i4 => hin ⟨⟨i1, i2⟩, i3, i4⟩
                    go_wp2_with fail
                    go_meet
                    exact ⟨rfl, rfl⟩
                  · go_wp2_with fail
                    go_meet
                    exact ⟨rfl, rfl⟩
                · go_wp2_with fail
                  go_meet
                  exact ⟨rfl, rfl⟩
              · go_wp2_with fail
                go_meet
                exact ⟨rfl, rfl⟩
            case rest =>
              obtain ⟨rfl, rfl⟩ := hcut
              rename World => X3
              go_upto_block 6 with fail
              refine pm_b6f _ _ _ _ _ _ _ _ _ _ _ _ _ _ _ _ _ _ _ _ _ _ _ _ _ _ _ _ _ _ _ _ _ _ _ _ _ _ _ _ _ _ _ _ _ _ _ _ _ _ _ _ _ _ _ _ _ _ _ _ _ _ _ _ _ _ _ _ _ _ _ _ _ _ _ _ _ _ _ _ _ _ _ _ _ _ _ _ _ _ _ _ _ _ _ _ _ _ _ _ _ _ _ _ _ _ _ _ _ _ _ _ _ _ _ _ _ _ _ _ _ _ _ _ _ _ _ _ _ _ _ _ _ _ _ _ _ _ _ _ _ _ _ _ _ _ _ _ _ _ _ _ _ _ _ _ _ _ _ _ _ _ _ _ _ _ _ _ _ _ _ _ _ _ _ _ _ _ _ _ _ _ _ _ _ _ _ _ _ _ _ _ _ _ _ _ _ _ _ _ _ _ _ _ _ _ _ _ _ _ _ _ _ _ _ _ _ _ _ _ _ _ _ _ _ _ _ _ _ _ _ _ _ _ _ _ _ _ _ _ _ _ _ _ _ _ _ _ _ _ _ _ _ _ _ _ _ _ _ _ _ _ _ _ _ _ _ _ _ _ _ _ _ _ _ _ _ _ _ _ _ _ _ _ _ _ _ _ _ _ _ _ _ _ _ _ _ _ _ _ _ _ _ _ _ _ _ _ _ _ _ _ _ _ _ _ _ _ _ _ _ _ _ _ _ _ _ _ _ _ _ _ _ _ _ _ _ _ _ _ _ _ _ _ _ _ _ _ _ _ _ _ _ _ _ _ _ _ _ _ _ _ _ _ _ _ _ _ _ _ _ _ _ _ _ _ _ _ _ _ _ _ _ _ _ _ _ _ _ _ _ _ _ _ _ _ _ _ _ _ _ _ _ _ _ _ _ _ _ _ _ _ _ _ _ _ _ _ _ _ _ _ _ _ _ _ _ _ _ _ _ _ _ _ _ _ _ _ _ _ _ _ _ _ _ _ _ _ _ _ _ _ _ _ _ _ _ _ _ _ _ _ _ _ _ _ _ _ _ _ _ _ _ _ _ _ _ _ _ _ _ _ _ _ _ _ _ _ _ _ _ _ _ _ _ _ _ _ X3 bC g1 g2 g4 P M d i k kn kd kd1 cap1 cap2 cap4 HV A2 K2 P2 L2 A4 K4 P4 L4 (fun jj => wd (ful C) jj) _ hi hi0 hk3 hkM hM wk1 wkd1 (HCN.out X3 BX2).1 (HCN.out X3 BX2).2.1 (HCN.out X3 BX2).2.2.1 (HCN.out X3 BX2).2.2.2 HQ.out.1 HQ.out.2.1 HQ.out.2.2.1 HQ.out.2.2.2 (hid1 ?_)
              intro Y v6 v30 v31 v385 v386 v387 v388 v389 v390 v391 v392 v393 v394 v395 v396 v397 v398 v399 v400 v401 v402 v403 v404 v405 v406 v407 v408 v409 v410 v411 v412 v413 v414 v415 v416 v417 v418 v419 v420 v421 v422 v423 v424 v425 v426 v427 v428 v429 v430 v431 v432 v433 v434 v435 v436 v437 v438 v439 v440 v441 v442 v443 v444 v445 v446 v447 v448 v449 v450 v451 v452 v453 v454 v455 v456 v457 v458 v459 v460 v461 v462 v463 v464 v465 v466 v467 v468 v469 v470 v471 v472 v473 v474 v475 v476 v477 v478 v479 v480 v481 v482 v483 v484 v485 v486 v487 v488 v489 v490 v491 v492 v493 v494 v495 v496 v497 v498 v499 v500 v501 v502 v503 v504 v505 v506 BY
              go_wp2_with fail
              exact ⟨⟨kn, by omega, by first | rfl | (rw [← ekn]; go_num), bl_step BX2 BY⟩, by simp [intOf]; omega⟩
    · have hk1 : ¬ (k : Int) < (RS : Int) := by omega
      obtain ⟨k0, k1, k2, k4, k5, k6, k7, k8, k9, t1⟩ := HK.out X BX
      go_wp2_with fail
      exact hQ.out _ _ _ _ _ _ _ _ _ _ _ _ _ _ _ _ _ _ _ _ _ _ _ _ _ _ _ _ _ _ _ _ _ _ _ _ _ _ _ _ _ _ _ _ _ _ _ _ _ _ _ _ _ _ _ _ _ _ _ _ _ _ _ _ _ _ _ _ _ _ _ _ _ _ _ _ _ _ _ _ _ _ _ _ _ _ _ _ _ _ _ _ _ _ _ _ _ _ _ _ _ _ _ _ _ _ _ _ _ _ _ _ _ _ _ _ _ _ _ _ _ _ _ _ _ _ _ _ _ _ _ _ _ _ _ _ _ _ _ _ _ _ _ _ _ _ _ _ _ _ _ _ _ _ _ _ _ _ _ _ _ _ _ _ _ _ _ _ _ _ _ _ _ _ _ _ _ _ _ _ _ _ _ _ _ _ _ _ _ _ _ _ _ _ _ _ _ _ _ _ BX
end Go.Proofs.Ythjebjhepdclkaa
