import Derived.Test.YthjebjhepdclkaaQAPatchMoved
import Derived.Test.YthjebjhepdclkaaEW2
import Derived.Test.YthjebjhepdclkaaEW8
import Derived.Deep.MidRow
import Derived.Test.YthjebjhepdclkaaDW2
import Derived.Test.YthjebjhepdclkaaBW12
import Derived.Deep.DeepAppendWide
import Derived.Laws.AppendOwnNone
import Derived.Test.YthjebjhepdclkaaKW8
import Derived.Maps.AppendAt
import Derived.Test.YthjebjhepdclkaaEW1
/- PACKAGE patch: Spread. -/
namespace Go.Proofs.Ythjebjhepdclkaa
open Go.RowKit Go.Shelf

set_option maxHeartbeats 3200000 in
set_option maxRecDepth 100000 in
theorem spread_walk (C P n K0 g o cap : Nat) (l : List Int) (hl : l.length = n) (w : World) (hC : 1 ≤ C ∧ C ≤ 4096) (hP : 1 ≤ P) (hn : P * C = n) (hM : P * nw C ≤ 262144) (hK0 : K0 ≤ n) (good : ∀ k, k < K0 → -1 ≤ ia l k ∧ ia l k ≤ 1) (stop : K0 < n → ¬ (-1 ≤ ia l K0 ∧ ia l K0 ≤ 1)) (rd : R8 w (some ⟨g, o, none⟩) l) :
    Calls Try.prog 12 #[.int .i64 C, .slice (some ⟨g, o, none⟩) n cap] w fun e w' => ((K0 = n ∧ ∃ G1 G2, e = .returned (.tuple #[rwv (bt (P * nw C) G1 0) (bt (P * nw C) G2 0), .int .i64 0]) ∧ w.heap.size ≤ G1 ∧ w.heap.size ≤ G2 ∧ G1 ≠ G2 ∧ w'.rowIs G1 48 (P * nw C) (wf (spN l C P)) ∧ w'.rowIs G2 48 (P * nw C) (wf (spN (nzl l) C P))) ∨
      (K0 < n ∧ e = .returned (.tuple #[rwv ⟨0, none, 0, 0, 0⟩ ⟨0, none, 0, 0, 0⟩, .int .i64 52]))) ∧ Below w.heap.size w w' := by
  have hd1 : nw C ≤ 64 := by unfold nw; omega
  have hd0 : 1 ≤ nw C := by unfold nw; omega
  have hn0 : 0 < n := by rw [← hn]; exact Nat.mul_pos hP hC.1
  have hPb : P ≤ 262144 := Nat.le_trans (Nat.le_mul_of_pos_right P hd0) hM
  have hnb : n ≤ 1073741824 := by rw [← hn]; exact Nat.mul_le_mul hPb hC.2
  obtain ⟨M, eM⟩ : ∃ M, P * nw C = M := ⟨_, rfl⟩
  have HW := hid1 (pwordsFor_any C (by omega))
  have HBL := hid1 (pblank_any M (by omega))
  have HST := hid1 (fun k (hk : k < n) => And.intro (spN_step (l := l) (C := C) (P := P) (i := k) hC.1 (by rw [hn]; exact hk)) (spN_step (l := nzl l) (C := C) (P := P) (i := k) hC.1 (by rw [hn]; exact hk)))
  have HIX : Hid (∀ k, k < n → k / C * (64 * nw C) + k % C < 64 * M ∧ k / C < P ∧ k % C < C) := fun k hk => by
    have h1 : k / C < P := Nat.div_lt_of_lt_mul (by rw [Nat.mul_comm, hn]; exact hk)
    have h2 := Nat.mod_lt k (show 0 < C by omega)
    have h3 := Nat.mul_le_mul_right (64 * nw C) (show k / C + 1 ≤ P from h1)
    rw [Nat.succ_mul] at h3
    have h4 := nw_le C
    have h5 : P * (64 * nw C) = 64 * M := by rw [← eM, Nat.mul_left_comm]
    omega
  have RD := hid1 rd
  have HL := hid1 hl
  have HG := hid1 good
  have HSP := hid1 stop
  have HN := hid1 hn
  rw [eM] at hM ⊢
  have iq : (n : Int) / (C : Int) = (P : Int) := by rw [← hn]; push_cast; exact Int.mul_ediv_cancel _ (by omega)
  have ir : (n : Int) % (C : Int) = 0 := by rw [← hn]; push_cast; exact Int.mul_emod_left _ _
  have irt : (n : Int).tmod (C : Int) = 0 := by rw [Int.tmod_eq_emod_of_nonneg (by omega)]; exact ir
  have iM : (P : Int) * (nw C : Int) = (M : Int) := by rw [← eM]; push_cast; rfl
  have wP : IntKind.i64.wrap (P : Int) = (P : Int) := by rw [IntKind.wrap_i64]; omega
  have wM : IntKind.i64.wrap (M : Int) = (M : Int) := by rw [IntKind.wrap_i64]; omega
  have wM64 : IntKind.i64.wrap ((M : Int) * 64) = (M : Int) * 64 := by rw [IntKind.wrap_i64]; omega
  have iC1 : ¬ (C : Int) < 1 := by omega
  have iC2 : ¬ (4096 : Int) < (C : Int) := by omega
  have iC0 : ¬ (C : Int) = 0 := by omega
  have iC0' : ¬ C = 0 := by omega
  have iCp : (0 : Int) < (C : Int) := by omega
  have in0 : ¬ (n : Int) = 0 := by omega
  have in0' : ¬ n = 0 := by omega
  have i64m : ¬ (16777216 : Int) < (M : Int) * 64 := by omega
  clear rd hl good stop hn
  go_enter Try.func12, Try.ntmps12
  go_wp2_with (go_at_call 27; refine (HW.out _).mono ?_; rintro e y1 ⟨rfl, rfl⟩)
  refine gen_calls (fun X => X.rowIs w.heap.size 46 4 (qf ⟨0, none, 0, 0, 0⟩ ⟨0, none, 0, 0, 0⟩) ∧ Below w.heap.size w X) ⟨q_new w ⟨0, none, 0, 0, 0⟩ ⟨0, none, 0, 0, 0⟩ _, bl_alloc (Below.refl _ _) _⟩ ?_
  rintro X ⟨b0, BX⟩
  refine (HBL.out X).mono ?_
  rintro e y1 ⟨G1, G2, rfl, hG1, hG2, hne, r1, r2, hb⟩
  have lX := b0.lt
  replace b0 := keepr hb b0
  have BY := bl_step BX hb
  have l1 := r1.lt
  have l2 := r2.lt
  clear hb BX HBL HW
  have HB0 := hid1 b0
  have HR1 := hid1 r1
  have HR2 := hid1 r2
  have HBY := hid1 BY
  clear b0 r1 r2 BY
  go_wp2_with fail
  go_loopw [47] (fun i wr => ∃ k : Nat, k ≤ K0 ∧ i = .int .i64 k ∧ wr.rowIs w.heap.size 46 4 (qf ⟨0, none, 0, 0, 0⟩ ⟨0, none, 0, 0, 0⟩) ∧ wr.rowIs y1.heap.size 46 4 (qf (bt M G1 0) (bt M G2 0)) ∧ wr.rowIs G1 48 M (wf (spN (l.take k) C P)) ∧ wr.rowIs G2 48 M (wf (spN ((nzl l).take k) C P)) ∧ Below w.heap.size w wr) (fun i _ => n - (intOf i).toNat)
  case atStart => exact ⟨0, Nat.zero_le _, rfl, HB0.out.alloc _, q_new y1 (bt M G1 0) (bt M G2 0) _, by rw [List.take_zero, spN_nil]; exact HR1.out.alloc _, by rw [List.take_zero, spN_nil]; exact HR2.out.alloc _, bl_alloc HBY.out _⟩
  case round =>
    clear HB0 HR1 HR2 HBY
    obtain ⟨k, hk, rfl, b0, b8, r1, r2, BR⟩ := hrel
    have ik0 : (0 : Int) ≤ (k : Int) := by omega
    by_cases hlt : k < n
    · have ik : (k : Int) < (n : Int) := by omega
      obtain ⟨ga, oa, ea, c8⟩ := RD.out k (by rw [HL.out]; exact hlt)
      cases ea
      replace c8 := keepc BR c8
      by_cases hg : k < K0
      · obtain ⟨w1, w2⟩ := HG.out k hg
        obtain ⟨s1, s2⟩ := HST.out k hlt
        obtain ⟨x1, x2, x3⟩ := HIX.out k hlt
        rw [nzl_at] at s2
        obtain ⟨z, ez⟩ : ∃ z, ia l k = z := ⟨_, rfl⟩
        rw [ez] at w1 w2 s1 s2 c8
        have w1' : ¬ z < -1 := by omega
        have w2' : ¬ 1 < z := by omega
        obtain ⟨pp, epp⟩ : ∃ pp, k / C = pp := ⟨_, rfl⟩
        obtain ⟨cc, ecc⟩ : ∃ cc, k % C = cc := ⟨_, rfl⟩
        have ipp : (k : Int) / (C : Int) = (pp : Int) := by rw [← epp]; simp
        have icc : (k : Int) % (C : Int) = (cc : Int) := by rw [← ecc]; simp
        have icct : (k : Int).tmod (C : Int) = (cc : Int) := by rw [Int.tmod_eq_emod_of_nonneg (by omega)]; exact icc
        rw [epp, ecc] at s1 s2 x1
        rw [epp] at x2
        rw [ecc] at x3
        obtain ⟨ix, eix⟩ : ∃ ix, pp * (64 * nw C) + cc = ix := ⟨_, rfl⟩
        rw [eix] at s1 s2 x1
        have b1 : pp * nw C ≤ 262144 := Nat.le_trans (Nat.mul_le_mul_right _ (Nat.le_of_lt x2)) (by rw [eM]; exact hM)
        obtain ⟨pd, epd⟩ : ∃ pd, pp * nw C = pd := ⟨_, rfl⟩
        have ipd : (pp : Int) * (nw C : Int) = (pd : Int) := by rw [← epd]; push_cast; rfl
        have eix' : pd * 64 + cc = ix := by rw [← eix, ← epd]; rw [Nat.mul_left_comm, Nat.mul_comm 64]
        have iix : (pd : Int) * 64 + (cc : Int) = (ix : Int) := by rw [← eix']; push_cast; rfl
        rw [epd] at b1
        have v1 : IntKind.i64.wrap (pp : Int) = (pp : Int) := by rw [IntKind.wrap_i64]; omega
        have v2 : IntKind.i64.wrap (cc : Int) = (cc : Int) := by rw [IntKind.wrap_i64]; omega
        have v3 : IntKind.i64.wrap (pd : Int) = (pd : Int) := by rw [IntKind.wrap_i64]; omega
        have v4 : IntKind.i64.wrap ((pd : Int) * 64) = (pd : Int) * 64 := by rw [IntKind.wrap_i64]; omega
        have v5 : IntKind.i64.wrap (ix : Int) = (ix : Int) := by rw [IntKind.wrap_i64]; omega
        have HSET := hid1 (fun W q1 q2 => pset_any M G1 G2 (spN (l.take k) C P) (spN ((nzl l).take k) C P) ix z W hM x1 ⟨w1, w2⟩ hne q1 q2 (spN (l.take (k + 1)) C P) (spN ((nzl l).take (k + 1)) C P) s1 (by rw [s2]; by_cases h0 : z = 0 <;> simp [h0]))
        have HB0 := hid1 b0
        have HB8 := hid1 b8
        have HR1 := hid1 r1
        have HR2 := hid1 r2
        have HBR := hid1 BR
        have lb8 := b8.lt
        clear b0 b8 r1 r2 BR s1 s2 eix eix' epp ecc epd ez
        go_wp2_with fail
        go_quiet (fail)
        go_upto_region 16 with fail
        refine gen_world (fun X => X.rowIs w.heap.size 46 4 (qf ⟨0, none, 0, 0, 0⟩ ⟨0, none, 0, 0, 0⟩) ∧ X.rowIs y1.heap.size 46 4 (qf (bt M G1 0) (bt M G2 0)) ∧ X.rowIs G1 48 M (wf (spN (l.take k) C P)) ∧ X.rowIs G2 48 M (wf (spN ((nzl l).take k) C P)) ∧ Below w.heap.size w X) ⟨row_drewN HB0.out _, row_drewN HB8.out _, row_drewN HR1.out _, row_drewN HR2.out _, bl_drewN HBR.out _⟩ ?_
        clear HB0 HB8 HR1 HR2 HBR
        rintro X ⟨b0, b8, r1, r2, BR⟩
        have c0 := q0 b8
        have c1 := q1 b8
        have c2 := q2 b8
        have c3 := q3 b8
        go_wp2_with fail
        refine (HSET.out X r1 r2).mono ?_
        rintro e y2 ⟨rfl, p1, p2, W1, bt2, bt1⟩
        have HX : Hid (y2.rowIs w.heap.size 46 4 (qf ⟨0, none, 0, 0, 0⟩ ⟨0, none, 0, 0, 0⟩) ∧ y2.rowIs y1.heap.size 46 4 (qf (bt M G1 0) (bt M G2 0)) ∧ Below w.heap.size w y2) := ⟨bt1.row (by omega) (bt2.row (by omega) b0), bt1.row (by omega) (bt2.row (by omega) b8), bt1.below (by omega) (Nat.le_trans BR.size bt2.size) (bt2.below (by omega) BR.size BR)⟩
        have HP1 := hid1 p1
        have HP2 := hid1 p2
        clear b0 b8 r1 r2 BR c0 c1 c2 c3 p1 p2 bt1 bt2
        go_wp2_with fail
        exact ⟨⟨k + 1, by omega, by go_num, HX.out.1, HX.out.2.1, HP1.out, HP2.out, HX.out.2.2⟩, by simp [intOf]; omega⟩
      · obtain rfl : k = K0 := by omega
        have hsp := HSP.out hlt
        obtain ⟨z, ez⟩ : ∃ z, ia l k = z := ⟨_, rfl⟩
        rw [ez] at hsp c8
        have f0 := b0.frozen 0
        have f1 := b0.frozen 1
        have f2 := b0.frozen 2
        have f3 := b0.frozen 3
        have d0 := q0 b0
        have d1 := q1 b0
        have d2 := q2 b0
        have d3 := q3 b0
        clear b8 r1 r2 ez
        by_cases hz : z < -1
        · go_wp2_with fail
          exact bodyPost_ret (v := .tuple #[rwv ⟨0, none, 0, 0, 0⟩ ⟨0, none, 0, 0, 0⟩, .int .i64 52]) (by simp [results, Try.results12, go_sem, d0, d1, d2, d3]) rfl ⟨.inr rfl, bl_set (bl_set (bl_set (bl_set BR (Nat.le_refl _) _) (Nat.le_refl _) _) (Nat.le_refl _) _) (Nat.le_refl _) _⟩
        · have hz2 : 1 < z := by omega
          go_wp2_with fail
          exact bodyPost_ret (v := .tuple #[rwv ⟨0, none, 0, 0, 0⟩ ⟨0, none, 0, 0, 0⟩, .int .i64 52]) (by simp [results, Try.results12, go_sem, d0, d1, d2, d3]) rfl ⟨.inr rfl, bl_set (bl_set (bl_set (bl_set BR (Nat.le_refl _) _) (Nat.le_refl _) _) (Nat.le_refl _) _) (Nat.le_refl _) _⟩
    · obtain rfl : k = K0 := by omega
      obtain rfl : k = n := by omega
      have s0 := q0 b8
      have s1 := q1 b8
      have s2 := q2 b8
      have s3 := q3 b8
      have f0 := b0.frozen 0
      have f1 := b0.frozen 1
      have f2 := b0.frozen 2
      have f3 := b0.frozen 3
      have d0 := q0 b0
      have d1 := q1 b0
      have d2 := q2 b0
      have d3 := q3 b0
      have e1 : l.take k = l := List.take_of_length_le (by rw [HL.out]; exact Nat.le_refl _)
      have e2 : (nzl l).take k = nzl l := List.take_of_length_le (by rw [nzl_len, HL.out]; exact Nat.le_refl _)
      rw [e1] at r1
      rw [e2] at r2
      have HR1 := hid1 r1
      have HR2 := hid1 r2
      clear r1 r2 e1 e2 b8
      go_wp2_with fail
      have btz : But w.heap.size wr _ := (((((But.refl w.heap.size wr).set (o := 0) (.int .i64 ((64 * M : Nat) : Int))).set (o := 1) (.slice (some ⟨G1, 0, none⟩) M M)).set (o := 2) (.int .i64 ((64 * M : Nat) : Int))).set (o := 3) (.slice (some ⟨G2, 0, none⟩) M M))
      exact bodyPost_ret (v := .tuple #[rwv (bt M G1 0) (bt M G2 0), .int .i64 0]) (by simp [results, Try.results12, go_sem, d0, d1, d2, d3]) rfl ⟨⟨G1, G2, rfl, by omega, by omega, hne, btz.row (by omega) HR1.out, btz.row (by omega) HR2.out⟩, btz.below (Nat.le_refl _) BR.size BR⟩
end Go.Proofs.Ythjebjhepdclkaa
/- heddlelaw13: begun. -/
namespace Go.Proofs.Ythjebjhepdclkaa
open Go.RowKit Go.Shelf

/-- The cube's words 1, 0, 1, 1; a patch's 0, 0, 0, 1; weights' 1, 1, 1, 1. -/
def nC : Nat := 6277101735386680764176071790128604879565730051895802724353
def nP : Nat := 6277101735386680763835789423207666416102355444464034512896
def nW : Nat := 6277101735386680764176071790128604879584176795969512275969
theorem nC_is : nC = 1 + 2 ^ 128 + 2 ^ 192 := by decide
theorem nP_is : nP = 2 ^ 192 := by decide
theorem nW_is : nW = 1 + 2 ^ 64 + 2 ^ 128 + 2 ^ 192 := by decide
theorem wr_four (w : World) (t : TypeId) (a b c d N : Nat) (hN : N < 2 ^ (64 * 4)) (h0 : wd N 0 = a) (h1 : wd N 1 = b) (h2 : wd N 2 = c) (h3 : wd N 3 = d) : Wr (w.alloc (.cells #[.int .u64 a, .int .u64 b, .int .u64 c, .int .u64 d] t)) (some ⟨w.heap.size, 0, none⟩) 4 N := by
  refine ⟨hN, fun k hk => ⟨w.heap.size, 0, rfl, ?_⟩⟩
  rcases (show k = 0 ∨ k = 1 ∨ k = 2 ∨ k = 3 by omega) with rfl | rfl | rfl | rfl
  · simp [go_sem, wf, h0]
  · simp [go_sem, wf, h1]
  · simp [go_sem, wf, h2]
  · simp [go_sem, wf, h3]
theorem b_slV : Sg.slV (2 : Nat) (2 : Nat) (1 : Nat) (2 : Nat) (2 : Nat) (1 : Nat) (1 : Nat) (1 : Nat) (1 : Nat) (0 : Nat) (0 : Nat) 1 = Sg.sle (2 : Nat) (2 : Nat) 1 0 := by
  unfold Sg.slV
  rw [if_pos (by decide)]
  rfl
theorem b_seS : seS 2 2 1 nC 2 2 1 1 1 1 2 0 0 = nP := by decide +kernel
theorem b_seM : seM 2 2 1 2 2 1 1 1 1 2 0 0 = nP := by decide +kernel
theorem b_spN : spN [1, 1, 1, 1] 1 4 = nW := by decide +kernel
theorem b_spM : spN (nzl [1, 1, 1, 1]) 1 4 = nW := by decide +kernel
theorem b_cuk : cuk (2 : Nat) (2 : Nat) (1 : Nat) 4 nC = 0 := by decide +kernel
theorem b_see (g : Nat) (w : World) (rd : Wr w (some ⟨g, 0, none⟩) 4 nC) :
    Calls Try.prog 7 #[cuv 2 2 1 (some ⟨g, 0, none⟩) 4 4, Sg.win 2 2 1 1 1 1 0 0, .int .i64 0] w fun e w' => ∃ gL cap A1 K1 A2 K2, e = .returned (.tuple #[.slice (some ⟨gL, 0, none⟩) 4 cap, Sg.shp 2 2 1, .int .i64 0]) ∧ (w'.cell? ⟨gL, 0, none⟩ = some (.int .i64 256) ∧ w'.cell? ⟨gL, 1, none⟩ = some (.slice (some ⟨A1, 0, none⟩) 4 K1) ∧ w'.cell? ⟨gL, 2, none⟩ = some (.int .i64 256) ∧ w'.cell? ⟨gL, 3, none⟩ = some (.slice (some ⟨A2, 0, none⟩) 4 K2)) ∧ Wr w' (some ⟨A1, 0, none⟩) 4 nP ∧ Wr w' (some ⟨A2, 0, none⟩) 4 nP ∧ Below w.heap.size w w' := by
  refine (see_ok 2 2 1 g 0 4 4 2 2 1 1 1 1 0 0 2 2 nC 0 0 4 4 0 w (by decide) (by decide) rd (by decide) (by decide) (by decide) (by decide) (by decide) (by decide) (by decide) (by decide) (by decide) (by decide) (by decide) b_cuk (by decide) (by decide) (by decide) b_slV (by decide) (by decide) (by decide) (by decide) (by decide)).mono ?_
  rintro e w' ⟨u, L, rfl, sr, hb⟩
  have hn : L.length = 4 := by rw [sr.n]; rfl
  obtain ⟨A1, K1, A2, K2, eL, _, _, o1, o2⟩ := sr.r 0 (by omega) (by decide)
  have e0 : (List.range 4)[0] = 0 := rfl
  rw [e0, b_seS, b_seM] at eL
  rw [e0, b_seS] at o1
  rw [e0, b_seM] at o2
  have ho := sr.o
  rw [hn] at ho
  rcases own_formsE ho with ⟨_, h0⟩ | ⟨gL, cap, rfl, _, _, _⟩
  · omega
  · obtain ⟨h0, h1, h2, h3⟩ := rcs_at L 0 (by omega)
    rw [eL] at h0 h1 h2 h3
    exact ⟨gL, cap, A1, K1, A2, K2, rfl, ⟨own_atE ho h0, own_atE ho h1, own_atE ho h2, own_atE ho h3⟩, o1.wr, o2.wr, hb⟩
/-- The weights 1, 1, 1, 1. -/
theorem b_r8 (w : World) (t : TypeId) : R8 (w.alloc (.cells #[.int .i8 1, .int .i8 1, .int .i8 1, .int .i8 1] t)) (some ⟨w.heap.size, 0, none⟩) [1, 1, 1, 1] := by
  intro k hk
  refine ⟨w.heap.size, 0, rfl, ?_⟩
  simp at hk
  rcases (show k = 0 ∨ k = 1 ∨ k = 2 ∨ k = 3 by omega) with rfl | rfl | rfl | rfl <;> simp [go_sem, ia]
theorem b_spread (g : Nat) (w : World) (rd : R8 w (some ⟨g, 0, none⟩) [1, 1, 1, 1]) :
    Calls Try.prog 12 #[.int .i64 1, .slice (some ⟨g, 0, none⟩) 4 4] w fun e w' => ∃ G1 G2, e = .returned (.tuple #[rwv (bt 4 G1 0) (bt 4 G2 0), .int .i64 0]) ∧ w'.rowIs G1 48 4 (wf nW) ∧ w'.rowIs G2 48 4 (wf nW) ∧ Below w.heap.size w w' := by
  refine (spread_walk 1 4 4 4 g 0 4 [1, 1, 1, 1] rfl w (by decide) (by decide) (by decide) (by decide) (by decide) (fun k hk => by rcases (show k = 0 ∨ k = 1 ∨ k = 2 ∨ k = 3 by omega) with rfl | rfl | rfl | rfl <;> decide) (fun h => absurd h (by decide)) rd).mono ?_
  rintro e w' ⟨h, hb⟩
  rcases h with ⟨_, G1, G2, rfl, _, _, _, r1, r2⟩ | ⟨h, _⟩
  · rw [b_spN] at r1
    rw [b_spM] at r2
    exact ⟨G1, G2, rfl, r1, r2, hb⟩
  · omega
theorem b_lost (g1 g2 A1 K1 A2 K2 : Nat) (w : World) (r1 : Wr w (some ⟨g1, 0, none⟩) 4 nW) (r2 : Wr w (some ⟨g2, 0, none⟩) 4 nW) (x1 : Wr w (some ⟨A1, 0, none⟩) 4 nP) (x2 : Wr w (some ⟨A2, 0, none⟩) 4 nP) :
    Calls Try.prog 13 #[rwv (bt 4 g1 0) (bt 4 g2 0), rwv (bk 4 A1 K1 0) (bk 4 A2 K2 0)] w fun e w' => e = .returned (.tuple #[.int .i64 3, .int .i64 0]) ∧ Below w.heap.size w w' := by
  have rw' : ∀ {ao : Option Addr} {N : Nat} (n : Int) (k : Nat), Wr w ao 4 N → Rw w ⟨n, ao, 4, k, N⟩ := fun n k h => ⟨h.1, by show 4 ≤ 9223372036854775807; decide, h.2⟩
  refine (lost_any ⟨256, some ⟨g1, 0, none⟩, 4, 4, nW⟩ ⟨256, some ⟨g2, 0, none⟩, 4, 4, nW⟩ ⟨256, some ⟨A1, 0, none⟩, 4, K1, nP⟩ ⟨256, some ⟨A2, 0, none⟩, 4, K2, nP⟩ w (rw' _ _ r1) (rw' _ _ r2) (rw' _ _ x1) (rw' _ _ x2)).mono ?_
  rintro e w' ⟨rfl, hb⟩
  have d1 : ∀ (a1 a2 : Option Addr) (k1 k2 : Nat), dck ⟨256, a1, 4, k1, nW⟩ ⟨256, a2, 4, k2, nW⟩ = 0 := fun a1 a2 k1 k2 => by
    have e : dck ⟨256, a1, 4, k1, nW⟩ ⟨256, a2, 4, k2, nW⟩ = dck ⟨256, none, 4, 0, nW⟩ ⟨256, none, 4, 0, nW⟩ := rfl
    rw [e]; decide +kernel
  have d2 : ∀ (a1 a2 : Option Addr) (k1 k2 : Nat), dck ⟨256, a1, 4, k1, nP⟩ ⟨256, a2, 4, k2, nP⟩ = 0 := fun a1 a2 k1 k2 => by
    have e : dck ⟨256, a1, 4, k1, nP⟩ ⟨256, a2, 4, k2, nP⟩ = dck ⟨256, none, 4, 0, nP⟩ ⟨256, none, 4, 0, nP⟩ := rfl
    rw [e]; decide +kernel
  have hE : loE ⟨256, some ⟨g1, 0, none⟩, 4, 4, nW⟩ ⟨256, some ⟨g2, 0, none⟩, 4, 4, nW⟩ ⟨256, some ⟨A1, 0, none⟩, 4, K1, nP⟩ ⟨256, some ⟨A2, 0, none⟩, 4, K2, nP⟩ = 0 := by
    unfold loE; rw [d1, d2]; rfl
  have hV : loV ⟨256, some ⟨g1, 0, none⟩, 4, 4, nW⟩ ⟨256, some ⟨g2, 0, none⟩, 4, 4, nW⟩ ⟨256, some ⟨A1, 0, none⟩, 4, K1, nP⟩ ⟨256, some ⟨A2, 0, none⟩, 4, K2, nP⟩ = 3 := by
    unfold loV; rw [if_pos hE]
    show lo nW nW nP 256 = 3
    decide +kernel
  exact ⟨by rw [hE, hV], hb⟩
theorem kpB {Z Y : World} {gL A1 K1 A2 K2 b3 : Nat} (c : Z.cell? ⟨gL, 0, none⟩ = some (.int .i64 256) ∧ Z.cell? ⟨gL, 1, none⟩ = some (.slice (some ⟨A1, 0, none⟩) 4 K1) ∧ Z.cell? ⟨gL, 2, none⟩ = some (.int .i64 256) ∧ Z.cell? ⟨gL, 3, none⟩ = some (.slice (some ⟨A2, 0, none⟩) 4 K2)) (r : Z.rowIs b3 23 3 (hf 2 2 1)) (hB : Below Z.heap.size Z Y) :
    (Y.cell? ⟨gL, 0, none⟩ = some (.int .i64 256) ∧ Y.cell? ⟨gL, 1, none⟩ = some (.slice (some ⟨A1, 0, none⟩) 4 K1) ∧ Y.cell? ⟨gL, 2, none⟩ = some (.int .i64 256) ∧ Y.cell? ⟨gL, 3, none⟩ = some (.slice (some ⟨A2, 0, none⟩) 4 K2)) ∧ (Y.cell? ⟨b3, 0, none⟩ = some (.int .i64 2) ∧ Y.cell? ⟨b3, 1, none⟩ = some (.int .i64 2) ∧ Y.cell? ⟨b3, 2, none⟩ = some (.int .i64 1)) :=
  ⟨⟨keepc hB c.1, keepc hB c.2.1, keepc hB c.2.2.1, keepc hB c.2.2.2⟩, hf0 (keepr hB r), hf1 (keepr hB r), hf2 (keepr hB r)⟩
theorem kpC {Z Y : World} {gL A1 K1 A2 K2 b5 G1 G2 : Nat} (c : Z.cell? ⟨gL, 0, none⟩ = some (.int .i64 256) ∧ Z.cell? ⟨gL, 1, none⟩ = some (.slice (some ⟨A1, 0, none⟩) 4 K1) ∧ Z.cell? ⟨gL, 2, none⟩ = some (.int .i64 256) ∧ Z.cell? ⟨gL, 3, none⟩ = some (.slice (some ⟨A2, 0, none⟩) 4 K2)) (r : Z.rowIs b5 46 4 (qf (bt 4 G1 0) (bt 4 G2 0))) (hB : Below Z.heap.size Z Y) :
    (Y.cell? ⟨gL, 0, none⟩ = some (.int .i64 256) ∧ Y.cell? ⟨gL, 1, none⟩ = some (.slice (some ⟨A1, 0, none⟩) 4 K1) ∧ Y.cell? ⟨gL, 2, none⟩ = some (.int .i64 256) ∧ Y.cell? ⟨gL, 3, none⟩ = some (.slice (some ⟨A2, 0, none⟩) 4 K2)) ∧ (Y.cell? ⟨b5, 0, none⟩ = some (.int .i64 256) ∧ Y.cell? ⟨b5, 1, none⟩ = some (.slice (some ⟨G1, 0, none⟩) 4 4) ∧ Y.cell? ⟨b5, 2, none⟩ = some (.int .i64 256) ∧ Y.cell? ⟨b5, 3, none⟩ = some (.slice (some ⟨G2, 0, none⟩) 4 4)) :=
  ⟨⟨keepc hB c.1, keepc hB c.2.1, keepc hB c.2.2.1, keepc hB c.2.2.2⟩, q0 (keepr hB r), q1 (keepr hB r), q2 (keepr hB r), q3 (keepr hB r)⟩
set_option maxHeartbeats 6400000 in
set_option maxRecDepth 100000 in
theorem pbegun_any (w : World) : Calls Try.prog 4 #[] w fun e w' => e = .returned (.bool true) ∧ Below w.heap.size w w' := by
  have hfo := follows
  go_enter Try.func4, Try.ntmps4
  go_wp2_with fail
  refine gen_calls (fun X => Wr X (some ⟨w.heap.size, 0, none⟩) 4 nC ∧ Below w.heap.size w X) ⟨(wr_four w 48 1 0 1 1 nC (by decide) (by decide) (by decide) (by decide) (by decide)).below (bl_alloc (Below.refl _ _) _), bl_alloc (bl_alloc (Below.refl _ _) _) _⟩ ?_
  rintro X ⟨rC, BX⟩
  refine (b_see w.heap.size X rC).mono ?_
  rintro e w1 ⟨gL, cap, A1, K1, A2, K2, rfl, cL, x1, x2, hb⟩
  have B1 := bl_step BX hb
  clear hb BX rC
  go_upto_region 3 with fail
  refine gen_world (fun Z => (Z.cell? ⟨gL, 0, none⟩ = some (.int .i64 256) ∧ Z.cell? ⟨gL, 1, none⟩ = some (.slice (some ⟨A1, 0, none⟩) 4 K1) ∧ Z.cell? ⟨gL, 2, none⟩ = some (.int .i64 256) ∧ Z.cell? ⟨gL, 3, none⟩ = some (.slice (some ⟨A2, 0, none⟩) 4 K2)) ∧ Z.rowIs w1.heap.size 23 3 (hf 2 2 1) ∧ Wr Z (some ⟨A1, 0, none⟩) 4 nP ∧ Wr Z (some ⟨A2, 0, none⟩) 4 nP ∧ Below w.heap.size w Z)
    ⟨⟨keepc (bl_alloc (Below.refl _ _) _) cL.1, keepc (bl_alloc (Below.refl _ _) _) cL.2.1, keepc (bl_alloc (Below.refl _ _) _) cL.2.2.1, keepc (bl_alloc (Below.refl _ _) _) cL.2.2.2⟩, hf_new _ _ _ _ _, x1.below (bl_alloc (Below.refl _ _) _), x2.below (bl_alloc (Below.refl _ _) _), bl_alloc B1 _⟩ ?_
  clear cL x1 x2 B1
  rintro Z ⟨cL, r3, x1, x2, BZ⟩
  have HCL := hid1 cL
  have HR3 := hid1 r3
  have HX1 := hid1 x1
  have HX2 := hid1 x2
  have HBZ := hid1 BZ
  clear cL r3 x1 x2 BZ
  go_cut [55] from 18 to 55 (fun s55 wx => s55 = .bool false ∧ Below Z.heap.size Z wx)
  case first =>
    go_region_held3 (fun Y => (Y.cell? ⟨gL, 0, none⟩ = some (.int .i64 256) ∧ Y.cell? ⟨gL, 1, none⟩ = some (.slice (some ⟨A1, 0, none⟩) 4 K1) ∧ Y.cell? ⟨gL, 2, none⟩ = some (.int .i64 256) ∧ Y.cell? ⟨gL, 3, none⟩ = some (.slice (some ⟨A2, 0, none⟩) 4 K2)) ∧ (Y.cell? ⟨w1.heap.size, 0, none⟩ = some (.int .i64 2) ∧ Y.cell? ⟨w1.heap.size, 1, none⟩ = some (.int .i64 2) ∧ Y.cell? ⟨w1.heap.size, 2, none⟩ = some (.int .i64 1)))
      (((try dsimp only); (with_reducible refine kpB (Z := Z) HCL.out HR3.out ?_); repeat (first | (with_reducible exact Below.refl _ _) | (with_reducible assumption) | (with_reducible refine Below.drew ?_) | (with_reducible refine bl_alloc ?_ _))))
      (first
        | (go_at_call 10; refine (pbits_same 256 4 nP _ _ _ _ _ (by decide) (HX1.out.below (by repeat (first | (with_reducible exact Below.refl _ _) | (with_reducible refine Below.drew ?_) | (with_reducible refine bl_alloc ?_ _)))) (by first | exact (wr_four Z 48 0 0 0 1 nP (by decide) (by decide) (by decide) (by decide) (by decide)).below (Below.refl _ _).drew | exact wr_four Z.drew 48 0 0 0 1 nP (by decide) (by decide) (by decide) (by decide) (by decide))).mono ?_; rintro e y1 ⟨rfl, hb⟩; have by1 : Below Z.heap.size Z y1 := (by first | exact bl_step (bl_alloc (Below.refl _ _) _).drew hb | exact bl_step (bl_alloc (Below.refl _ _).drew _) hb); clear hb)
        | (go_at_call 11; refine (prow_same (bk 4 A1 K1 0) (bk 4 A2 K2 0) (bk 4 A2 K2 0) (bk 4 A1 K1 0) _ (by show 4 ≤ 9223372036854775807; decide) (by show 4 ≤ 9223372036854775807; decide) rfl rfl rfl rfl nP nP (HX1.out.below by1) (HX2.out.below by1) (HX2.out.below by1) (HX1.out.below by1)).mono ?_; rintro e y2 ⟨rfl, hb⟩; have by2 : Below Z.heap.size Z y2 := bl_step by1 hb; clear hb))
    all_goals (refine kmeet_of (by assumption) ?_; go_meet; exact ⟨rfl, by2⟩)
  case rest =>
    obtain ⟨rfl, Bc⟩ := hcut
    have cL := (kpB HCL.out HR3.out Bc).1
    have x1 := HX1.out.below Bc
    have x2 := HX2.out.below Bc
    have BC := bl_step HBZ.out Bc
    clear HCL HR3 HX1 HX2 HBZ Bc
    go_wp2_with fail
    refine gen_calls (fun X => R8 X (some ⟨wc.heap.size, 0, none⟩) [1, 1, 1, 1] ∧ (X.cell? ⟨gL, 0, none⟩ = some (.int .i64 256) ∧ X.cell? ⟨gL, 1, none⟩ = some (.slice (some ⟨A1, 0, none⟩) 4 K1) ∧ X.cell? ⟨gL, 2, none⟩ = some (.int .i64 256) ∧ X.cell? ⟨gL, 3, none⟩ = some (.slice (some ⟨A2, 0, none⟩) 4 K2)) ∧ Wr X (some ⟨A1, 0, none⟩) 4 nP ∧ Wr X (some ⟨A2, 0, none⟩) 4 nP ∧ Below w.heap.size w X)
      ⟨b_r8 wc _, ⟨keepc (bl_alloc (Below.refl _ _) _) cL.1, keepc (bl_alloc (Below.refl _ _) _) cL.2.1, keepc (bl_alloc (Below.refl _ _) _) cL.2.2.1, keepc (bl_alloc (Below.refl _ _) _) cL.2.2.2⟩, x1.below (bl_alloc (Below.refl _ _) _), x2.below (bl_alloc (Below.refl _ _) _), bl_alloc BC _⟩ ?_
    clear cL x1 x2 BC
    rintro X ⟨r8, cL, x1, x2, BX⟩
    refine (b_spread wc.heap.size X r8).mono ?_
    rintro e w2 ⟨G1, G2, rfl, g1, g2, hb⟩
    have B2 := bl_step BX hb
    replace x1 := x1.below hb
    replace x2 := x2.below hb
    have cL' := And.intro (keepc hb cL.1) (And.intro (keepc hb cL.2.1) (And.intro (keepc hb cL.2.2.1) (keepc hb cL.2.2.2)))
    have y1 := Wr.row g1 (show nW < 2 ^ (64 * 4) by decide)
    have y2 := Wr.row g2 (show nW < 2 ^ (64 * 4) by decide)
    clear hb BX r8 cL g1 g2
    go_upto_region 6 with fail
    refine gen_world (fun V => V.rowIs w2.heap.size 46 4 (qf (bt 4 G1 0) (bt 4 G2 0)) ∧ (V.cell? ⟨gL, 0, none⟩ = some (.int .i64 256) ∧ V.cell? ⟨gL, 1, none⟩ = some (.slice (some ⟨A1, 0, none⟩) 4 K1) ∧ V.cell? ⟨gL, 2, none⟩ = some (.int .i64 256) ∧ V.cell? ⟨gL, 3, none⟩ = some (.slice (some ⟨A2, 0, none⟩) 4 K2)) ∧ Wr V (some ⟨G1, 0, none⟩) 4 nW ∧ Wr V (some ⟨G2, 0, none⟩) 4 nW ∧ Wr V (some ⟨A1, 0, none⟩) 4 nP ∧ Wr V (some ⟨A2, 0, none⟩) 4 nP ∧ Below w.heap.size w V)
      ⟨q_new w2 (bt 4 G1 0) (bt 4 G2 0) _, ⟨keepc (bl_alloc (Below.refl _ _) _) cL'.1, keepc (bl_alloc (Below.refl _ _) _) cL'.2.1, keepc (bl_alloc (Below.refl _ _) _) cL'.2.2.1, keepc (bl_alloc (Below.refl _ _) _) cL'.2.2.2⟩, y1.below (bl_alloc (Below.refl _ _) _), y2.below (bl_alloc (Below.refl _ _) _), x1.below (bl_alloc (Below.refl _ _) _), x2.below (bl_alloc (Below.refl _ _) _), bl_alloc B2 _⟩ ?_
    clear cL' y1 y2 x1 x2 B2
    rintro V ⟨r5, cV, y1, y2, x1, x2, BV⟩
    have HR5 := hid1 r5
    have HCV := hid1 cV
    have HL := hid1 (fun (Y : World) (hY : Below V.heap.size V Y) => b_lost G1 G2 A1 K1 A2 K2 Y (y1.below hY) (y2.below hY) (x1.below hY) (x2.below hY))
    have HBV := hid1 BV
    clear r5 cV y1 y2 x1 x2 BV
    go_cut [6, 7] from 61 to 68 (fun s6 s7 wx => s6 = .int .i64 3 ∧ s7 = .int .i64 0 ∧ Below V.heap.size V wx)
    case first =>
      go_region_held3 (fun Y => (Y.cell? ⟨gL, 0, none⟩ = some (.int .i64 256) ∧ Y.cell? ⟨gL, 1, none⟩ = some (.slice (some ⟨A1, 0, none⟩) 4 K1) ∧ Y.cell? ⟨gL, 2, none⟩ = some (.int .i64 256) ∧ Y.cell? ⟨gL, 3, none⟩ = some (.slice (some ⟨A2, 0, none⟩) 4 K2)) ∧ (Y.cell? ⟨w2.heap.size, 0, none⟩ = some (.int .i64 256) ∧ Y.cell? ⟨w2.heap.size, 1, none⟩ = some (.slice (some ⟨G1, 0, none⟩) 4 4) ∧ Y.cell? ⟨w2.heap.size, 2, none⟩ = some (.int .i64 256) ∧ Y.cell? ⟨w2.heap.size, 3, none⟩ = some (.slice (some ⟨G2, 0, none⟩) 4 4)))
        (((try dsimp only); (with_reducible refine kpC (Z := V) HCV.out HR5.out ?_); repeat (first | (with_reducible exact Below.refl _ _) | (with_reducible assumption) | (with_reducible refine Below.drew ?_))))
        ((go_at_call 13; refine (HL.out _ (by repeat (first | (with_reducible exact Below.refl _ _) | (with_reducible refine Below.drew ?_)))).mono ?_; rintro e y1 ⟨rfl, hb⟩; have by1 : Below V.heap.size V y1 := bl_step (Below.refl _ _).drew hb; clear hb))
      all_goals (refine kmeet_of (by assumption) ?_; go_meet; exact ⟨rfl, rfl, by1⟩)
    case rest =>
      obtain ⟨rfl, rfl, Bc⟩ := hcut
      have BC := bl_step HBV.out Bc
      clear HR5 HCV HL HBV Bc
      go_wp2_with fail
      go_ret
      exact ⟨rfl, BC⟩
end Go.Proofs.Ythjebjhepdclkaa
/- heddlelaw13: within. -/
namespace Go.Proofs.Ythjebjhepdclkaa
open Go.RowKit Go.Shelf

/-- A number turned into lo to hi. -/
def wi (n lo hi : Int) : Int := lo + n % (hi - lo + 1)
theorem wi_bd {n lo hi : Int} (h : lo ≤ hi) : lo ≤ wi n lo hi ∧ wi n lo hi ≤ hi := by
  unfold wi
  have h1 := Int.emod_nonneg n (show hi - lo + 1 ≠ 0 by omega)
  have h2 := Int.emod_lt_of_pos n (show 0 < hi - lo + 1 by omega)
  omega
theorem withinE_any (n lo hi : Int) (h : lo ≤ hi) (h1 : -1000 ≤ lo) (h2 : hi ≤ 1000) (w : World) :
    Calls Try.prog 14 #[.int .i64 n, .int .i64 lo, .int .i64 hi] w fun e w' => e = .returned (.int .i64 (wi n lo hi)) ∧ w' = w := by
  obtain ⟨m, em⟩ : ∃ m, m = hi - lo + 1 := ⟨_, rfl⟩
  have w1 : IntKind.i64.wrap (hi - lo) = hi - lo := by rw [IntKind.wrap_i64]; omega
  have w2 : IntKind.i64.wrap (hi - lo + 1) = m := by rw [IntKind.wrap_i64]; omega
  have hm0 : ¬ m = 0 := by omega
  have b1 := Int.emod_nonneg n (show m ≠ 0 by omega)
  have b2 := Int.emod_lt_of_pos n (show 0 < m by omega)
  have ew : wi n lo hi = lo + n % m := by unfold wi; rw [em]
  obtain ⟨r, er⟩ : ∃ r, n.tmod m = r := ⟨_, rfl⟩
  have hr : -m < r ∧ r < m ∧ (0 ≤ r ∧ r = n % m ∨ r < 0 ∧ r + m = n % m) := by
    have k1 : (n.tmod m).natAbs < m.natAbs := by
      have := Int.natAbs_tmod n m
      rw [this]
      exact Nat.mod_lt _ (by omega)
    have k2 := Int.emod_add_mul_ediv n m
    have k3 := Int.tmod_add_mul_tdiv n m
    rw [er] at k1 k3
    refine ⟨by omega, by omega, ?_⟩
    have k4 : (r - n % m) = m * (n / m - n.tdiv m) := by rw [Int.mul_sub]; omega
    obtain ⟨d, ed⟩ : ∃ d, n / m - n.tdiv m = d := ⟨_, rfl⟩
    rw [ed] at k4
    by_cases c0 : d = 0
    · rw [c0, Int.mul_zero] at k4; left; omega
    · by_cases c1 : d = -1
      · rw [c1] at k4; right; omega
      · exfalso
        by_cases c2 : 0 < d
        · have : m * 1 ≤ m * d := Int.mul_le_mul_of_nonneg_left (by omega) (by omega)
          omega
        · have : m * d ≤ m * (-2) := Int.mul_le_mul_of_nonneg_left (by omega) (by omega)
          omega
  have w3 : IntKind.i64.wrap r = r := by rw [IntKind.wrap_i64]; omega
  have w4 : IntKind.i64.wrap (r + m) = r + m := by rw [IntKind.wrap_i64]; omega
  rw [ew]
  have hmb : m ≤ 2001 := by omega
  clear em ew
  by_cases hr0 : r < 0
  · have e1 : r + m = n % m := by omega
    have w5 : IntKind.i64.wrap (lo + (r + m)) = lo + n % m := by rw [IntKind.wrap_i64]; omega
    clear hr b1 b2 e1
    go_enter Try.func14, Try.ntmps14
    go_wp2_with fail
    go_ret
    exact ⟨rfl, rfl⟩
  · have e1 : r = n % m := by omega
    have w5 : IntKind.i64.wrap (lo + r) = lo + n % m := by rw [IntKind.wrap_i64]; omega
    clear hr b1 b2 e1
    go_enter Try.func14, Try.ntmps14
    go_wp2_with fail
    go_ret
    exact ⟨rfl, rfl⟩
end Go.Proofs.Ythjebjhepdclkaa
/- The document's own answers of dot: Bit, May, Check. -/
namespace Go.Proofs.Ythjebjhepdclkaa
open Go.RowKit

theorem half_u64 {x j : Nat} : ((x / 2 ^ j : Nat) : Int) / 2 = ((x / 2 ^ (j + 1) : Nat) : Int) := by
  rw [Nat.pow_succ, ← Nat.div_div_eq_div_mul]
  omega
/-- May a row of bits be? -/
def myB (b : Bt) : Bool := decide (chk b.n b.m b.N = 0)
theorem myB_zero {b : Bt} (h : chk b.n b.m b.N = 0) : myB b = true := by unfold myB; rw [decide_eq_true h]
theorem myB_not {b : Bt} (h : chk b.n b.m b.N ≠ 0) : myB b = false := by unfold myB; rw [decide_eq_false h]
theorem sub_word (A B k : Nat) : (wd A k &&& wd B k = wd A k) ↔ wd A k &&& (18446744073709551615 - wd B k) = 0 := by
  have hc : ∀ i, i < 64 → (18446744073709551615 - wd B k).testBit i = !((wd B k).testBit i) := fun i hi => by
    have hb := wd_lt B k
    have e : 18446744073709551615 - wd B k = 2 ^ 64 - (wd B k + 1) := by rw [← two64]; omega
    rw [e, Nat.testBit_two_pow_sub_succ (by rw [← two64]; exact hb)]
    simp [hi]
  constructor
  · intro h
    refine wd_ext (and_lt64 (wd_lt _ _)) (by decide) fun i hi => ?_
    have h1 := congrArg (fun x => Nat.testBit x i) h
    simp only [Nat.testBit_and] at h1
    rw [Nat.testBit_and, hc i hi]
    cases h2 : (wd A k).testBit i <;> cases h3 : (wd B k).testBit i <;> simp [h2, h3] at h1 ⊢
  · intro h
    refine wd_ext (and_lt64 (wd_lt _ _)) (wd_lt _ _) fun i hi => ?_
    have h1 := congrArg (fun x => Nat.testBit x i) h
    simp only [Nat.testBit_and, Nat.zero_testBit] at h1
    rw [hc i hi] at h1
    rw [Nat.testBit_and]
    cases h2 : (wd A k).testBit i <;> cases h3 : (wd B k).testBit i <;> simp [h2, h3] at h1 ⊢
theorem dck_bad {A B : Bt} (h : myB A = false ∨ myB B = false ∨ A.n ≠ B.n) : dck A B = 20 := by
  unfold dck
  rw [if_pos]
  rcases h with h | h | h
  · left
    intro h2
    rw [myB_zero h2] at h
    cases h
  · right
    unfold ftB
    rw [decide_eq_false]
    rintro ⟨h2, _⟩
    rw [myB_zero h2] at h
    cases h
  · right
    unfold ftB
    rw [decide_eq_false]
    rintro ⟨_, h2⟩
    exact h h2.symm
theorem dck_good {A B : Bt} (h1 : myB A = true) (h2 : myB B = true) (h3 : A.n = B.n) : (dck A B = if A.N &&& B.N = A.N then 0 else 100) ∧ ∃ n : Nat, A.n = n ∧ n ≤ 16777216 ∧ A.m = nw n ∧ B.m = nw n ∧ A.N < 2 ^ n := by
  have e1 : chk A.n A.m A.N = 0 := of_decide_eq_true h1
  have e2 : chk B.n B.m B.N = 0 := of_decide_eq_true h2
  obtain ⟨n, f1, f2, f3, f4⟩ := chk_zero e1
  obtain ⟨n', k1, k2, k3, k4⟩ := chk_zero e2
  have : n' = n := by omega
  subst this
  refine ⟨?_, n', f1, f2, f3, k3, f4⟩
  unfold dck
  rw [if_neg]
  rintro (h | h)
  · exact h e1
  · unfold ftB at h
    have := of_decide_eq_false h
    exact this ⟨e2, h3.symm⟩
end Go.Proofs.Ythjebjhepdclkaa
/- The document's Weights and sum. -/
namespace Go.Proofs.Ythjebjhepdclkaa
open Go.RowKit

theorem info_i64 : (Try.prog.info? 2).map (fun i => (i.zero, i.size, i.bytes)) = some (some (.int .i64 0), 1, 8) := by kernel_rfl
/-- The first k numbers of f, as cells. -/
def fl (f : Nat → Int) (k : Nat) : List Value := (List.range k).map fun i => Value.int .i64 (f i)
theorem fl_len (f : Nat → Int) (k : Nat) : (fl f k).length = k := by simp [fl]
theorem fl_snoc (f : Nat → Int) (k : Nat) : fl f (k + 1) = fl f k ++ [.int .i64 (f k)] := by simp [fl, List.range_succ]
theorem fl_at {f : Nat → Int} {k j : Nat} (h : j < k) : (fl f k)[j]? = some (.int .i64 (f j)) := by simp [fl, h]
/-- The slice reads as these numbers. -/
def R64 (w : World) (ao : Option Addr) (f : Nat → Int) (n : Nat) : Prop := ∀ k, k < n → ∃ g o, ao = some ⟨g, o, none⟩ ∧ w.cell? ⟨g, o + k, none⟩ = some (.int .i64 (f k))
theorem R64.below {w w' : World} {ao : Option Addr} {f : Nat → Int} {n : Nat} (h : R64 w ao f n) (hb : Below w.heap.size w w') : R64 w' ao f n :=
  fun k hk => by obtain ⟨g, o, e, c⟩ := h k hk; exact ⟨g, o, e, keepc hb c⟩
theorem r64_own {w : World} {base n : Nat} {v : Value} {f : Nat → Int} (h : w.ownsRow base 2 1 v n (fl f n)) : ∃ ao cap, v = .slice ao n cap ∧ R64 w ao f n := by
  rcases Nat.eq_zero_or_pos n with h0 | h0
  · rcases h.2 with ⟨h1, _⟩ | ⟨g, cap, cur, hv, _, _, h4, h5, _⟩
    · exact ⟨none, 0, by rw [h0]; exact h1, fun k hk => absurd hk (by omega)⟩
    · exact ⟨_, cap, hv, fun k hk => absurd hk (by omega)⟩
  · obtain ⟨g, cap, c, hv, _, h4, h5, hr, hf⟩ := own_row h h0
    refine ⟨_, cap, hv, fun k hk => ⟨g, 0, rfl, ?_⟩⟩
    rw [Nat.zero_add]
    refine (hr.cell (by omega)).trans ?_
    have := hf k hk
    rw [fl_at hk] at this
    exact congrArg some (Option.some.inj this).symm
theorem own_keep {w w' : World} {base : Nat} {e : TypeId} {size : Nat} {v : Value} {n : Nat} {xs : List Value} (h : w.ownsRow base e size v n xs) (hb : Below w.heap.size w w') : w'.ownsRow base e size v n xs :=
  h.kept (row := none) ⟨hb.os, hb.tape, hb.output, hb.size, fun k hk _ => hb.block k hk⟩ (by cases v.ownBlock <;> simp)
/-- Behind a new cell and an append to what lies from base on: what lies below base is as it was. -/
theorem grown_below {base : Nat} {e : TypeId} {size n : Nat} {v : Value} {xs : List Value} {w w' : World} {o : Obj} (hown : w.ownsRow base e size v n xs) (hb : base ≤ w.heap.size) (hg : (w.alloc o).grownBy w' v.ownBlock) : Below base w w' :=
  (((Below.refl base w).alloc hb o)).grown hg (by simp; omega) (fun q hq => (hown.lt q hq).1)
end Go.Proofs.Ythjebjhepdclkaa
/- The document's Set: truth values as a row of bits (as DR4, for a seat with cubes). -/
namespace Go.Proofs.Ythjebjhepdclkaa
open Go.RowKit

theorem own_mono {w : World} {base base' : Nat} {e : TypeId} {size : Nat} {v : Value} {n : Nat} {xs : List Value} (h : w.ownsRow base e size v n xs) (hb : base' ≤ base) : w.ownsRow base' e size v n xs := by
  refine ⟨h.1, ?_⟩
  rcases h.2 with h2 | ⟨g, cap, cur, hv, hbase, h4⟩
  · exact .inl h2
  · exact .inr ⟨g, cap, cur, hv, by omega, h4⟩
theorem own_row_ne {w : World} {base : Nat} {e t : TypeId} {size b n k : Nat} {v : Value} {xs : List Value} {f : Nat → Value} (h : w.ownsRow base e size v n xs) (r : w.rowIs b t k f) (ht : e ≠ t) : v.ownBlock ≠ some b := by
  rcases h.2 with ⟨rfl, _⟩ | ⟨g, cap, cur, rfl, _, hg, _⟩
  · simp [Value.ownBlock]
  · intro e1
    simp [Value.ownBlock] at e1
    subst e1
    obtain ⟨c, hc, _⟩ := r
    rw [hg] at hc
    exact ht (by injection hc with hc; injection hc)
theorem row_grown {w w' : World} {base : Nat} {e t : TypeId} {size b n k : Nat} {v : Value} {xs : List Value} {f : Nat → Value} (r : w.rowIs b t k f) (hown : w.ownsRow base e size v n xs) (hg : w.grownBy w' v.ownBlock) (ht : e ≠ t) : w'.rowIs b t k f :=
  r.of_block (hg.block _ r.lt (fun e1 => own_row_ne hown r ht e1.symm))
/-- The slice reads as these truth values. -/
def RB (w : World) (ao : Option Addr) (f : Nat → Bool) (n : Nat) : Prop := ∀ k, k < n → ∃ g o, ao = some ⟨g, o, none⟩ ∧ w.cell? ⟨g, o + k, none⟩ = some (.bool (f k))
theorem RB.below {w w' : World} {ao : Option Addr} {f : Nat → Bool} {n : Nat} (h : RB w ao f n) (hb : Below w.heap.size w w') : RB w' ao f n :=
  fun k hk => by obtain ⟨g, o, e, c⟩ := h k hk; exact ⟨g, o, e, keepc hb c⟩
theorem half_step (x j : Nat) : x / 2 ^ j = 2 * (x / 2 ^ (j + 1)) + (x.testBit j).toNat := by
  rw [Nat.pow_succ, ← Nat.div_div_eq_div_mul]
  have h := Nat.testBit_eq_decide_div_mod_eq (x := x) (i := j)
  have e : (x.testBit j).toNat = x / 2 ^ j % 2 := by
    rw [h]
    rcases Nat.mod_two_eq_zero_or_one (x / 2 ^ j) with e | e <;> simp [e]
  rw [e]
  omega
theorem wl_snoc (N n : Nat) : wl N (n + 1) = wl N n ++ [wf N n] := by simp [wl, List.range_succ]
theorem app_word {ops : Array Oper} {rest : List Oper} {o : Oper} {a : Act} {Q : Exit → Act → World → Prop} {w : World} (hgd : o.guard = none) (s x : Operand)
    (ho : o.op = .call { callee := .builtin .append, args := #[s, x], argTypes := #[31, 31] }) (base : Nat) (v : Value) (N n : Nat) (hs : a.eval s = v) (hown : w.ownsRow base 48 1 v n (wl N n))
    (g : Nat) (y : Int) (cb : Nat) (hx : a.eval x = .slice (some ⟨g, 0, none⟩) 1 cb) (hr : w.cell? ⟨g, 0, none⟩ = some (.int .u64 y)) (hM : n ≤ 17592186044000) (hb : base ≤ w.heap.size) (hy : wf N n = .int .u64 y)
    (h : ∀ v' w', w'.ownsRow base 48 1 v' (n + 1) (wl N (n + 1)) → w.grownBy w' v.ownBlock → wpList Try.prog ops Q rest (a.put o.dst v') w') : wpList Try.prog ops Q (o :: rest) a w := by
  obtain ⟨i0, hi, hz0, hz1, hz2⟩ := info_parts info_u64
  refine wpList_append_own w hgd s x _ ho base 48 i0 (.int .u64 0) 1 8 und_u64s hi hz0 hz1 hz2 rfl (by decide) v n (wl N n) hs hown ⟨g, 0, none⟩ 1 cb [.int .u64 y] hx rfl
    (fun j u hu => ?_) (fun u hu => by simp at hu; subst hu; rfl) (by unfold maxLen; omega) (by omega) hb ?_
  · rcases j with _ | j
    · simp at hu; subst hu; exact hr
    · simp at hu
  · intro v' w' h1 h2 _
    exact h v' w' (by rw [wl_snoc, hy]; exact h1) h2
theorem own_form2 {w : World} {base : Nat} {e : TypeId} {size : Nat} {v : Value} {n : Nat} {xs : List Value} (h : w.ownsRow base e size v n xs) : ∃ ao cp, v = .slice ao n cp := by
  rcases h.2 with ⟨rfl, rfl⟩ | ⟨g, cap, cur, rfl, _⟩
  · exact ⟨none, 0, rfl⟩
  · exact ⟨_, cap, rfl⟩
theorem rw_own {w : World} {base n N cap : Nat} {ao : Option Addr} (h : w.ownsRow base 48 1 (.slice ao (nw n) cap) (nw n) (wl N (nw n))) (hN : N < 2 ^ n) (h1 : n ≤ 16777216) : Rw w ⟨n, ao, nw n, cap, N⟩ := by
  have hb := nw_bd h1
  refine ⟨lt_nw hN, by show nw n ≤ _; omega, fun k hk => ?_⟩
  have hk' : k < nw n := hk
  obtain ⟨g, cp, f, hv, _, hle, _, hrow, hf⟩ := own_row h (by omega)
  injection hv with h1 h2 h3
  subst h1
  refine ⟨g, 0, rfl, ?_⟩
  rw [Nat.zero_add, hrow.cell (by omega)]
  have e := hf k hk'
  rw [wl_at hk'] at e
  exact e.symm
end Go.Proofs.Ythjebjhepdclkaa
/- heddlelaw13: roomy, kept: words with marks behind them. -/
namespace Go.Proofs.Ythjebjhepdclkaa
open Go.RowKit Go.Shelf

/-- The words of N (n of them), and i marks behind them, as a number. -/
def rmN (N n : Nat) : Nat → Nat
  | 0 => N
  | i + 1 => rmN N n i ||| (77 + i) * 2 ^ (64 * (n + i))
theorem rmN_lt {N n : Nat} (hN : N < 2 ^ (64 * n)) : ∀ i, i ≤ 20 → rmN N n i < 2 ^ (64 * (n + i))
  | 0, _ => hN
  | i + 1, hi => by
    have h1 := rmN_lt hN i (by omega)
    have e : 64 * (n + (i + 1)) = 64 * (n + i) + 64 := by omega
    refine Nat.or_lt_two_pow (Nat.lt_of_lt_of_le h1 (Nat.pow_le_pow_right (by decide) (by omega))) ?_
    rw [e, Nat.pow_add, Nat.mul_comm]
    exact Nat.mul_lt_mul_of_pos_left (Nat.lt_of_lt_of_le (show 77 + i < 128 by omega) (by decide)) (Nat.two_pow_pos _)
theorem wd_shift (x a k : Nat) (hx : x < 18446744073709551616) : wd (x * 2 ^ (64 * a)) k = if k = a then x else 0 := by
  refine wd_ext (wd_lt _ _) (by split; exact hx; decide) fun j hj => ?_
  rw [wd_bit, mul_bit]
  by_cases e : k = a
  · subst e
    rw [if_pos rfl]
    have h1 : 64 * k ≤ 64 * k + j := by omega
    have h2 : 64 * k + j - 64 * k = j := by omega
    simp [hj, h2]
  · rw [if_neg e]
    by_cases h : 64 * a ≤ 64 * k + j
    · have hb : x.testBit (64 * k + j - 64 * a) = false := Nat.testBit_lt_two_pow (Nat.lt_of_lt_of_le hx (by rw [two64]; exact Nat.pow_le_pow_right (by decide) (by omega)))
      simp [hb]
    · simp [h]
/-- The marks do not touch the words ahead; each is where it is put. -/
theorem rmN_wd {N n : Nat} (hN : N < 2 ^ (64 * n)) : ∀ i, i ≤ 20 → ∀ k, wd (rmN N n i) k = if k < n then wd N k else if k < n + i then 77 + (k - n) else 0
  | 0, _, k => by
    by_cases h : k < n
    · rw [if_pos h]; rfl
    · rw [if_neg h, if_neg (by omega)]
      refine wd_ext (wd_lt _ _) (by decide) fun j hj => ?_
      rw [wd_bit]
      have : (rmN N n 0).testBit (64 * k + j) = false := Nat.testBit_lt_two_pow (Nat.lt_of_lt_of_le hN (Nat.pow_le_pow_right (by decide) (by omega)))
      simp [this]
  | i + 1, hi, k => by
    have ih := rmN_wd hN i (by omega) k
    show wd (rmN N n i ||| (77 + i) * 2 ^ (64 * (n + i))) k = _
    rw [wd_or, ih, wd_shift _ _ _ (by omega)]
    by_cases h1 : k < n
    · rw [if_pos h1, if_neg (by omega), if_pos h1]; simp
    · rw [if_neg h1, if_neg h1]
      by_cases h2 : k = n + i
      · rw [if_neg (by omega), if_pos h2, if_pos (by omega)]; simp; omega
      · rw [if_neg h2]
        by_cases h3 : k < n + i
        · rw [if_pos h3, if_pos (by omega)]; simp
        · rw [if_neg h3, if_neg (by omega)]; simp
theorem wl_congr {A B n : Nat} (h : ∀ k, k < n → wd A k = wd B k) : wl A n = wl B n := by
  unfold wl
  refine List.map_congr_left fun k hk => ?_
  unfold wf
  rw [h k (List.mem_range.1 hk)]
theorem app_nilE {ops : Array Oper} {rest : List Oper} {o : Oper} {a : Act} {Q : Exit → Act → World → Prop} {w : World} (hgd : o.guard = none) (s x : Operand)
    (ho : o.op = .call { callee := .builtin .append, args := #[s, x], argTypes := #[31, 31] }) (hs : a.eval s = .slice none 0 0)
    (ao : Option Addr) (n N cap : Nat) (hx : a.eval x = .slice ao n cap) (hr : Wr w ao n N) (hM : n ≤ 17592186043904) (hn0 : ao = none → cap = 0)
    (h : ∀ v' w', w'.ownsRow w.heap.size 48 1 v' n (wl N n) → Below w.heap.size w w' → wpList Try.prog ops Q rest (a.put o.dst v') w') : wpList Try.prog ops Q (o :: rest) a w := by
  obtain ⟨i0, hi, hz0, hz1, hz2⟩ := info_parts info_u64
  cases ao with
  | none =>
    have h0 : n = 0 := by
      rcases Nat.eq_zero_or_pos n with h0 | h0
      · exact h0
      · obtain ⟨g, o', e, _⟩ := hr.2 0 h0
        cases e
    have h1 := hn0 rfl
    subst h0 h1
    exact wpList_append_own_none hgd s x _ ho w.heap.size 48 i0 1 und_u64s hi (.slice none 0 0) 0 [] hs (World.ownsRow_nil _ _ _ _) hx (h _ _ (World.ownsRow_nil _ _ _ _) (Below.refl _ _))
  | some ad =>
    refine wpList_append_own w hgd s x _ ho w.heap.size 48 i0 (.int .u64 0) 1 8 und_u64s hi hz0 hz1 hz2 rfl (by decide) (.slice none 0 0) 0 [] hs (World.ownsRow_nil _ _ _ _) ad n cap (wl N n) hx (by rw [wl_len]; omega)
      (fun j u hu => ?_) (fun u hu => by unfold wl at hu; obtain ⟨k, _, rfl⟩ := List.mem_map.1 hu; rfl) (by unfold maxLen; omega) (by omega) (Nat.le_refl _) ?_
    · obtain ⟨hj, rfl⟩ := wl_get hu
      obtain ⟨g, o', e, c⟩ := hr.2 j hj
      obtain rfl : ad = ⟨g, o', none⟩ := Option.some.inj e
      by_cases h0 : j = 0
      · subst h0; exact c
      · simp [Addr.add, h0, c]
    · intro v' w' h1 h2 _
      rw [Nat.zero_add, List.nil_append] at h1
      exact h v' w' h1 ((Below.refl _ _).grown h2 (Nat.le_refl _) (fun _ e => by cases e))
/-- The words ahead of the marks. -/
theorem rmN_wr {w : World} {G K n N : Nat} (hN : N < 2 ^ (64 * n)) (h : Ow w G K (n + 20) (rmN N n 20)) : Wr w (some ⟨G, 0, none⟩) n N :=
  ⟨hN, fun k hk => by
    obtain ⟨g, o, e, c⟩ := h.wr.2 k (by omega)
    refine ⟨g, o, e, ?_⟩
    rw [c]
    unfold wf
    rw [rmN_wd hN 20 (Nat.le_refl _), if_pos hk]⟩
end Go.Proofs.Ythjebjhepdclkaa
/- heddlelaw13: handed. -/
namespace Go.Proofs.Ythjebjhepdclkaa
open Go.RowKit Go.Shelf

end Go.Proofs.Ythjebjhepdclkaa
/- heddleref13: Lost. -/
namespace Go.Proofs.Ythjebjhepdclkaa
open Go.RowKit

end Go.Proofs.Ythjebjhepdclkaa
/- heddleref13: lay. -/
namespace Go.Proofs.Ythjebjhepdclkaa
open Go.RowKit Go.Shelf

theorem info_boolE : (Try.prog.info? 4).map (fun i => (i.zero, i.size, i.bytes)) = some (some (.bool false), 1, 1) := by kernel_rfl
def blE (f : Nat → Bool) (n : Nat) : List Value := (List.range n).map fun i => .bool (f i)
theorem blE_snoc (f : Nat → Bool) (n : Nat) : blE f (n + 1) = blE f n ++ [.bool (f n)] := by simp [blE, List.range_succ]
theorem blE_at {f : Nat → Bool} {n j : Nat} (h : j < n) : (blE f n)[j]? = some (.bool (f j)) := by simp [blE, h]
/-- Two lists of truth values, apart. -/
structure Ly (w wr : World) (uS uM : Value) (fS fM : Nat → Bool) (j j' : Nat) : Prop where
  oS : wr.ownsRow (w.heap.size + 1) 4 1 uS j (blE fS j)
  oM : wr.ownsRow (w.heap.size + 1) 4 1 uM j' (blE fM j')
  ne : uS.ownBlock = none ∨ uM.ownBlock = none ∨ uS.ownBlock ≠ uM.ownBlock
  r0 : wr.rowIs w.heap.size 46 4 (qf ⟨0, none, 0, 0, 0⟩ ⟨0, none, 0, 0, 0⟩)
  b : Below w.heap.size w wr
theorem ly_new {w : World} {base n : Nat} {v : Value} {xs : List Value} (h : w.ownsRow base 4 1 v n xs) : v.ownBlock ≠ some (w.heap.size + 1) := fun e => by
  have := (h.lt _ e).2
  omega
theorem Ly.sign {w wr w1 : World} {uS uM v1 : Value} {fS fM : Nat → Bool} {J : Nat} {y : Bool} (h : Ly w wr uS uM fS fM J J) (ow : w1.ownsRow (w.heap.size + 1) 4 1 v1 (J + 1) (blE fS (J + 1))) (gr : (wr.alloc (.cells #[.bool y] 4)).grownBy w1 uS.ownBlock) (at1 : v1.ownBlock = uS.ownBlock ∨ v1.ownBlock = some (wr.heap.size + 1)) : Ly w w1 v1 uM fS fM (J + 1) J := by
  have hM : w1.ownsRow (w.heap.size + 1) 4 1 uM J (blE fM J) := by
    refine (h.oM.alloc _).kept gr ?_
    rcases h.ne with e | e | e
    · rw [e]; cases uM.ownBlock <;> simp
    · rw [e]; simp
    · cases e2 : uM.ownBlock with
      | none => simp
      | some k => rw [e2] at e; exact .inr (Ne.symm e)
  refine ⟨ow, hM, ?_, row_grown (h.r0.alloc _) (h.oS.alloc _) gr (by decide), ?_⟩
  · rcases at1 with e | e
    · rw [e]; exact h.ne
    · right; right
      rw [e]
      exact fun e2 => ly_new h.oM e2.symm
  · have hb := h.b.alloc h.b.size (.cells #[.bool y] 4)
    exact hb.grown gr (by have := h.b.size; simp; omega) (fun q hq => by have := (h.oS.lt q hq).1; omega)
theorem Ly.some {w wr w1 : World} {uS uM v1 : Value} {fS fM : Nat → Bool} {J : Nat} {y : Bool} (h : Ly w wr uS uM fS fM (J + 1) J) (ow : w1.ownsRow (w.heap.size + 1) 4 1 v1 (J + 1) (blE fM (J + 1))) (gr : (wr.alloc (.cells #[.bool y] 4)).grownBy w1 uM.ownBlock) (at1 : v1.ownBlock = uM.ownBlock ∨ v1.ownBlock = .some (wr.heap.size + 1)) : Ly w w1 uS v1 fS fM (J + 1) (J + 1) := by
  have hS : w1.ownsRow (w.heap.size + 1) 4 1 uS (J + 1) (blE fS (J + 1)) := by
    refine (h.oS.alloc _).kept gr ?_
    rcases h.ne with e | e | e
    · rw [e]; simp
    · rw [e]; cases uS.ownBlock <;> simp
    · cases e2 : uS.ownBlock with
      | none => simp
      | some k => rw [e2] at e; exact .inr e
  refine ⟨hS, ow, ?_, row_grown (h.r0.alloc _) (h.oM.alloc _) gr (by decide), ?_⟩
  · rcases at1 with e | e
    · rw [e]; exact h.ne
    · right; right
      rw [e]
      exact ly_new h.oS
  · have hb := h.b.alloc h.b.size (.cells #[.bool y] 4)
    exact hb.grown gr (by have := h.b.size; simp; omega) (fun q hq => by have := (h.oM.lt q hq).1; omega)
theorem ly_rb {w : World} {base n : Nat} {v : Value} {f : Nat → Bool} (h : w.ownsRow base 4 1 v n (blE f n)) : ∃ ao cap, v = .slice ao n cap ∧ RB w ao f n := by
  rcases h.2 with ⟨rfl, h0⟩ | ⟨g, cap, cur, rfl, _⟩
  · exact ⟨none, 0, by rw [h0], fun k hk => absurd hk (by omega)⟩
  · refine ⟨_, cap, rfl, fun k hk => ⟨g, 0, rfl, ?_⟩⟩
    have := h.cells (g := g) rfl k _ (blE_at (f := f) hk)
    rcases k with _ | k <;> simpa [Addr.add] using this
/-- A list of lists of numbers, each of C. -/
def LL (w : World) (ao : Option Addr) (P C : Nat) (v : Nat → Nat → Int) : Prop := ∀ p, p < P → ∃ g o xo xc, ao = some ⟨g, o, none⟩ ∧ w.cell? ⟨g, o + p, none⟩ = some (.slice xo C xc) ∧ ∀ k, k < C → ∃ g' o', xo = some ⟨g', o', none⟩ ∧ w.cell? ⟨g', o' + k, none⟩ = some (.int .i64 (v p k))
theorem LL.below {w w' : World} {ao : Option Addr} {P C : Nat} {v : Nat → Nat → Int} (h : LL w ao P C v) (hb : Below w.heap.size w w') : LL w' ao P C v := fun p hp => by
  obtain ⟨g, o, xo, xc, e, c, q⟩ := h p hp
  exact ⟨g, o, xo, xc, e, keepc hb c, fun k hk => by obtain ⟨g', o', e', c'⟩ := q k hk; exact ⟨g', o', e', keepc hb c'⟩⟩
/-- What is laid. -/
def layS (C D : Nat) (v : Nat → Nat → Int) (j : Nat) : Bool := decide (j % D < C) && decide (0 < v (j / D) (j % D))
def layM (C D : Nat) (v : Nat → Nat → Int) (j : Nat) : Bool := decide (j % D < C) && decide (v (j / D) (j % D) ≠ 0)
end Go.Proofs.Ythjebjhepdclkaa
/- heddleref13: Spread's lists of numbers, in memory. -/
namespace Go.Proofs.Ythjebjhepdclkaa
open Go.RowKit Go.Shelf

theorem info_intE : (Try.prog.info? 3).map (fun i => (i.zero, i.size, i.bytes)) = some (some (.int .i64 0), 1, 8) := by kernel_rfl
/-- An own list with one element another one. -/
theorem own_set1 {w : World} {base g n c q : Nat} {e : TypeId} {xs : List Value} (h : w.ownsRow base e 1 (.slice (some ⟨g, 0, none⟩) n c) n xs) (hq : q < n) (v : Value) : (w.setCell ⟨g, q, none⟩ v).ownsRow base e 1 (.slice (some ⟨g, 0, none⟩) n c) n (xs.set q v) := by
  obtain ⟨g', c', f, e1, hb, h4, h5, hrow, hf⟩ := own_row h (by omega)
  cases e1
  obtain ⟨cur, hc, hs, hcell⟩ := hrow.set q v
  have hlen : xs.length = n := by have := h.1; omega
  refine ⟨by simp [hlen], .inr ⟨g, c, cur, rfl, hb, hc, h4, h5, by omega, ?_⟩⟩
  refine List.ext_getElem? fun j => ?_
  by_cases hj : j < n
  · rw [Nat.mul_one, List.getElem?_take_of_lt hj]
    have h1 := hcell j (by omega)
    rw [Array.getElem?_toList, h1, List.getElem?_set]
    by_cases e : j = q
    · subst e; simp [hlen, hj]
    · show some (if j = q then v else f j) = _
      rw [if_neg e, if_neg (fun e2 => e e2.symm), hf j hj]
  · rw [List.getElem?_eq_none (by simp; omega), List.getElem?_eq_none (by simp; omega)]
theorem own_lt1 {w : World} {base n : Nat} {e : TypeId} {v : Value} {xs : List Value} (h : w.ownsRow base e 1 v n xs) {q : Nat} (hq : v.ownBlock = some q) : base ≤ q ∧ q < w.heap.size := h.lt q hq
/-- Blocks of two kinds are two. -/
theorem own_ne2 {w : World} {base base' : Nat} {e t : TypeId} {size size' n n' : Nat} {v v' : Value} {xs xs' : List Value} (h : w.ownsRow base e size v n xs) (h' : w.ownsRow base' t size' v' n' xs') (ht : e ≠ t) : v.ownBlock = none ∨ v.ownBlock ≠ v'.ownBlock := by
  rcases h.2 with ⟨rfl, _⟩ | ⟨g, cap, cur, rfl, _, hg, _⟩
  · left; rfl
  · rcases h'.2 with ⟨rfl, _⟩ | ⟨g', cap', cur', rfl, _, hg', _⟩
    · right; simp [Value.ownBlock]
    · right
      intro e1
      simp [Value.ownBlock] at e1
      subst e1
      rw [hg] at hg'
      injection hg' with hg'
      injection hg' with _ h2 _
      exact ht h2
theorem own_kept2 {w w' : World} {base : Nat} {e : TypeId} {size n : Nat} {v v' : Value} {xs : List Value} {o : Obj} (h : w.ownsRow base e size v n xs) (hne : v.ownBlock = none ∨ v.ownBlock ≠ v'.ownBlock) (hg : (w.alloc o).grownBy w' v'.ownBlock) : w'.ownsRow base e size v n xs := by
  refine (h.alloc o).kept hg ?_
  rcases hne with e1 | e1
  · rw [e1]; cases v'.ownBlock <;> simp
  · cases e2 : v.ownBlock with
    | none => simp
    | some k => rw [e2] at e1; simpa using e1
/-- Numbers of l from a on, n of them. -/
def ints (l : List Int) (a n : Nat) : List Value := (List.range n).map fun k => .int .i64 (ia l (a + k))
theorem ints_snoc (l : List Int) (a n : Nat) : ints l a (n + 1) = ints l a n ++ [.int .i64 (ia l (a + n))] := by simp [ints, List.range_succ]
theorem ints_at {l : List Int} {a n k : Nat} (h : k < n) : (ints l a n)[k]? = some (.int .i64 (ia l (a + k))) := by simp [ints, h]
def cnt (C k p : Nat) : Nat := min C (k - p * C)
end Go.Proofs.Ythjebjhepdclkaa
/- heddleref13: Spread refuses; what lay lays is what Spread asks for: plain mathematics. -/
namespace Go.Proofs.Ythjebjhepdclkaa
open Go.RowKit Go.Shelf

/-- Weights l, C to a place. -/
def vl (l : List Int) (C : Nat) (p k : Nat) : Int := ia l (p * C + k)
theorem layS_sp {C P n : Nat} (hC : 0 < C) (l : List Int) (hn : P * (64 * nw C) = n) : bn (layS C (64 * nw C) (vl l C)) n = spN l C P := by
  refine Nat.eq_of_testBit_eq fun j => ?_
  rw [bn_bit, spN_bit hC, hn]
  rfl
theorem layM_sp {C P n : Nat} (hC : 0 < C) (l : List Int) (hn : P * (64 * nw C) = n) : bn (layM C (64 * nw C) (vl l C)) n = spN (nzl l) C P := by
  refine Nat.eq_of_testBit_eq fun j => ?_
  rw [bn_bit, spN_bit hC, hn, nzl_at]
  unfold layM vl
  by_cases e : ia l (j / (64 * nw C) * C + j % (64 * nw C)) = 0 <;> simp [e]
end Go.Proofs.Ythjebjhepdclkaa
/- heddleref13: Spread's appends; its lists are what lay reads. -/
namespace Go.Proofs.Ythjebjhepdclkaa
open Go.RowKit Go.Shelf

end Go.Proofs.Ythjebjhepdclkaa
/- heddleref13: Spread walks. -/
namespace Go.Proofs.Ythjebjhepdclkaa
open Go.RowKit Go.Shelf

attribute [local go_sem ↓] Go.wp_at_zero Go.wp_at_succ

theorem meet_of13 {J K : Act → World → Prop} {Q : Exit → Act → World → Prop} {a : Act} {w : World} (hK : ∀ a' w', Met J a' w' → K a' w') (h : Met J a w) : Exit.then K Q Exit.normal a w := hK _ _ h
theorem own_form13 {w : World} {base : Nat} {e : TypeId} {size : Nat} {v : Value} {n : Nat} {xs : List Value} (h : w.ownsRow base e size v n xs) : ∃ ao cp, v = .slice ao n cp := by
  rcases h.2 with ⟨rfl, rfl⟩ | ⟨g, cap, cur, rfl, _⟩
  · exact ⟨none, 0, rfl⟩
  · exact ⟨_, cap, rfl⟩
end Go.Proofs.Ythjebjhepdclkaa
/- PACKAGE patch: Spread refuses. -/
namespace Go.Proofs.Ythjebjhepdclkaa
open Go.RowKit Go.Shelf

set_option maxHeartbeats 1600000 in
set_option maxRecDepth 100000 in
theorem spread_arg (c : Int) (n cap : Nat) (ao : Option Addr) (w : World) (hc : c < 1 ∨ 4096 < c) :
    Calls Try.prog 12 #[.int .i64 c, .slice ao n cap] w fun e w' => e = .returned (.tuple #[rwv ⟨0, none, 0, 0, 0⟩ ⟨0, none, 0, 0, 0⟩, .int .i64 1]) ∧ Below w.heap.size w w' := by
  rcases hc with hc | hc
  · go_enter Try.func12, Try.ntmps12
    go_wp2_with fail
    exact bodyPost_ret (v := .tuple #[rwv ⟨0, none, 0, 0, 0⟩ ⟨0, none, 0, 0, 0⟩, .int .i64 1]) (by simp [results, Try.results12, go_sem]) rfl ⟨rfl, bl_alloc (Below.refl _ _) _⟩
  · have hc1 : ¬ c < 1 := by omega
    go_enter Try.func12, Try.ntmps12
    go_wp2_with fail
    exact bodyPost_ret (v := .tuple #[rwv ⟨0, none, 0, 0, 0⟩ ⟨0, none, 0, 0, 0⟩, .int .i64 1]) (by simp [results, Try.results12, go_sem]) rfl ⟨rfl, bl_alloc (Below.refl _ _) _⟩
set_option maxHeartbeats 1600000 in
set_option maxRecDepth 100000 in
theorem spread_fit (C n cap : Nat) (ao : Option Addr) (w : World) (hC : 1 ≤ C ∧ C ≤ 4096) (hn : n ≤ 9223372036854775807) (h : n = 0 ∨ n % C ≠ 0) :
    Calls Try.prog 12 #[.int .i64 C, .slice ao n cap] w fun e w' => e = .returned (.tuple #[rwv ⟨0, none, 0, 0, 0⟩ ⟨0, none, 0, 0, 0⟩, .int .i64 32]) ∧ Below w.heap.size w w' := by
  have iC1 : ¬ (C : Int) < 1 := by omega
  have iC2 : ¬ (4096 : Int) < (C : Int) := by omega
  have iC0 : ¬ (C : Int) = 0 := by omega
  have iC0' : ¬ C = 0 := by omega
  by_cases h0 : n = 0
  · subst h0
    go_enter Try.func12, Try.ntmps12
    go_wp2_with fail
    exact bodyPost_ret (v := .tuple #[rwv ⟨0, none, 0, 0, 0⟩ ⟨0, none, 0, 0, 0⟩, .int .i64 32]) (by simp [results, Try.results12, go_sem]) rfl ⟨rfl, bl_alloc (Below.refl _ _) _⟩
  · have hr : n % C ≠ 0 := by rcases h with h | h; exact absurd h h0; exact h
    obtain ⟨q, hq⟩ : ∃ q, n % C = q := ⟨_, rfl⟩
    rw [hq] at hr
    have ir : (n : Int) % (C : Int) = (q : Int) := by rw [← hq]; simp
    have irt : (n : Int).tmod (C : Int) = (q : Int) := by rw [Int.tmod_eq_emod_of_nonneg (by omega)]; exact ir
    have iq : decide ((q : Int) = 0) = false := by simpa using hr
    have iq4 : ((q : Int) != 0) = true := by simpa using hr
    have in0 : ¬ (n : Int) = 0 := by omega
    have hqC : q < C := by rw [← hq]; exact Nat.mod_lt _ (by omega)
    have wq : IntKind.i64.wrap (q : Int) = (q : Int) := by rw [IntKind.wrap_i64]; omega
    clear hq h
    go_enter Try.func12, Try.ntmps12
    go_wp2_with fail
    exact bodyPost_ret (v := .tuple #[rwv ⟨0, none, 0, 0, 0⟩ ⟨0, none, 0, 0, 0⟩, .int .i64 32]) (by simp [results, Try.results12, go_sem]) rfl ⟨rfl, bl_alloc (Below.refl _ _) _⟩
set_option maxHeartbeats 1600000 in
set_option maxRecDepth 100000 in
theorem spread_long (C P n cap : Nat) (ao : Option Addr) (w : World) (hC : 1 ≤ C ∧ C ≤ 4096) (hP : 1 ≤ P) (hn : P * C = n) (hnb : n ≤ 140737488351232) (hM : 262144 < P * nw C) :
    Calls Try.prog 12 #[.int .i64 C, .slice ao n cap] w fun e w' => e = .returned (.tuple #[rwv ⟨0, none, 0, 0, 0⟩ ⟨0, none, 0, 0, 0⟩, .int .i64 2]) ∧ Below w.heap.size w w' := by
  have hd1 : nw C ≤ 64 := by unfold nw; omega
  have hn0 : 0 < n := by rw [← hn]; exact Nat.mul_pos hP hC.1
  have hPb : P ≤ 140737488351232 := Nat.le_trans (Nat.le_mul_of_pos_right P hC.1) (by rw [hn]; exact hnb)
  obtain ⟨M, eM⟩ : ∃ M, P * nw C = M := ⟨_, rfl⟩
  have hMb : M ≤ 9007199254478848 := by rw [← eM]; exact Nat.mul_le_mul hPb hd1
  have HW := hid1 (pwordsFor_any C (by omega))
  rw [eM] at hM
  have iq : (n : Int) / (C : Int) = (P : Int) := by rw [← hn]; push_cast; exact Int.mul_ediv_cancel _ (by omega)
  have ir : (n : Int) % (C : Int) = 0 := by rw [← hn]; push_cast; exact Int.mul_emod_left _ _
  have irt : (n : Int).tmod (C : Int) = 0 := by rw [Int.tmod_eq_emod_of_nonneg (by omega)]; exact ir
  have iM : (P : Int) * (nw C : Int) = (M : Int) := by rw [← eM]; push_cast; rfl
  have wP : IntKind.i64.wrap (P : Int) = (P : Int) := by rw [IntKind.wrap_i64]; omega
  have wM : IntKind.i64.wrap (M : Int) = (M : Int) := by rw [IntKind.wrap_i64]; omega
  have wM64 : IntKind.i64.wrap ((M : Int) * 64) = (M : Int) * 64 := by rw [IntKind.wrap_i64]; omega
  have iC1 : ¬ (C : Int) < 1 := by omega
  have iC2 : ¬ (4096 : Int) < (C : Int) := by omega
  have iC0 : ¬ (C : Int) = 0 := by omega
  have iC0' : ¬ C = 0 := by omega
  have in0 : ¬ (n : Int) = 0 := by omega
  have in0' : ¬ n = 0 := by omega
  have i64m : (16777216 : Int) < (M : Int) * 64 := by omega
  clear hn eM
  go_enter Try.func12, Try.ntmps12
  go_wp2_with (go_at_call 27; refine (HW.out _).mono ?_; rintro e y1 ⟨rfl, rfl⟩)
  exact bodyPost_ret (v := .tuple #[rwv ⟨0, none, 0, 0, 0⟩ ⟨0, none, 0, 0, 0⟩, .int .i64 2]) (by simp [results, Try.results12, go_sem]) rfl ⟨rfl, bl_alloc (Below.refl _ _) _⟩
end Go.Proofs.Ythjebjhepdclkaa
/- Both Spreads as one. -/
namespace Go.Proofs.Ythjebjhepdclkaa
open Go.RowKit Go.Shelf

theorem own_wrE {W : World} {base m N c : Nat} {bo : Option Addr} (hN : N < 2 ^ (64 * m)) (h : W.ownsRow base 48 1 (.slice bo m c) m (wl N m)) : Wr W bo m N := by
  refine ⟨hN, fun k hk => ?_⟩
  rcases h.2 with ⟨_, h0⟩ | ⟨g, cap, cur, e, _⟩
  · omega
  · cases e
    refine ⟨g, 0, rfl, ?_⟩
    have := h.cells (g := g) rfl k _ (wl_at hk)
    rcases k with _ | k <;> simpa [Addr.add] using this
theorem row_wrE {W : World} {G m N : Nat} (hN : N < 2 ^ (64 * m)) (h : W.rowIs G 48 m (wf N)) : Wr W (some ⟨G, 0, none⟩) m N :=
  ⟨hN, fun k hk => ⟨G, 0, rfl, by rw [Nat.zero_add]; exact h.cell hk⟩⟩
theorem first_bad (l : List Int) : ∀ n, ∃ K0, K0 ≤ n ∧ (∀ k, k < K0 → -1 ≤ ia l k ∧ ia l k ≤ 1) ∧ (K0 < n → ¬ (-1 ≤ ia l K0 ∧ ia l K0 ≤ 1))
  | 0 => ⟨0, Nat.le_refl _, fun k hk => absurd hk (by omega), fun h => absurd h (by omega)⟩
  | n + 1 => by
    obtain ⟨K, h1, h2, h3⟩ := first_bad l n
    by_cases e : K < n
    · exact ⟨K, by omega, h2, fun _ => h3 e⟩
    · obtain rfl : K = n := by omega
      by_cases g : -1 ≤ ia l K ∧ ia l K ≤ 1
      · exact ⟨K + 1, Nat.le_refl _, fun k hk => by
          by_cases e2 : k = K
          · rw [e2]; exact g
          · exact h2 k (by omega), fun h => absurd h (by omega)⟩
      · exact ⟨K, by omega, h2, fun _ => g⟩
/-- Words of an answer: they lie in new memory. -/
def Wn (w w' : World) (ao : Option Addr) (m N : Nat) : Prop := Wr w' ao m N ∧ ∀ g o, ao = some ⟨g, o, none⟩ → w.heap.size ≤ g
theorem Wn.below {w W X : World} {ao : Option Addr} {m N : Nat} (h : Wn w W ao m N) (hb : Below W.heap.size W X) : Wn w X ao m N := ⟨h.1.below hb, h.2⟩
theorem Wn.set {w W : World} {ao : Option Addr} {m N b i : Nat} (h : Wn w W ao m N) (hb : b < w.heap.size) (v : Value) : Wn w (W.setCell ⟨b, i, none⟩ v) ao m N :=
  ⟨⟨h.1.1, fun k hk => by
    obtain ⟨g, o, e, c⟩ := h.1.2 k hk
    have := h.2 g o e
    refine ⟨g, o, e, ?_⟩
    have hne : ¬ b = g := by omega
    simp [go_sem, c]⟩, h.2⟩
theorem wr_none (w w' : World) : Wn w w' none 0 0 := ⟨⟨by decide, fun k hk => absurd hk (by omega)⟩, fun g o e => by cases e⟩
end Go.Proofs.Ythjebjhepdclkaa
/- PatchRows: what its walk reads and keeps. -/
namespace Go.Proofs.Ythjebjhepdclkaa
open Go.RowKit Go.Shelf

/-- A row's four cells. -/
def CrE (w : World) (g o : Nat) (A B : Bt) : Prop := w.cell? ⟨g, o, none⟩ = some (.int .i64 A.n) ∧ w.cell? ⟨g, o + 1, none⟩ = some (.slice A.ao A.m A.cap) ∧ w.cell? ⟨g, o + 2, none⟩ = some (.int .i64 B.n) ∧ w.cell? ⟨g, o + 3, none⟩ = some (.slice B.ao B.m B.cap)
theorem CrE.below {W X : World} {g o : Nat} {A B : Bt} (h : CrE W g o A B) (hb : Below W.heap.size W X) : CrE X g o A B := ⟨keepc hb h.1, keepc hb h.2.1, keepc hb h.2.2.1, keepc hb h.2.2.2⟩
/-- A row that came in, with its size. -/
def RzE (w : World) (b : Bt) : Prop := Rw w b ∧ (b.ao = none → b.cap = 0) ∧ b.m ≤ 17592186043904
theorem RzE.below {W X : World} {b : Bt} (h : RzE W b) (hb : Below W.heap.size W X) : RzE X b := ⟨h.1.below hb, h.2⟩
theorem RzE.wr {W : World} {b : Bt} (h : RzE W b) : Wr W b.ao b.m b.N := ⟨h.1.1, h.1.2.2⟩
def LrE (w : World) (ao : Option Addr) (l : List (Bt × Bt)) : Prop := ∀ i (h : i < l.length), (∃ g o, ao = some ⟨g, o, none⟩ ∧ CrE w g (o + i * 4) l[i].1 l[i].2) ∧ RzE w l[i].1 ∧ RzE w l[i].2
def LiE (w : World) (ao : Option Addr) (m : Nat) : Prop := ∀ k, k < m → ∃ g o z, ao = some ⟨g, o, none⟩ ∧ w.cell? ⟨g, o + k, none⟩ = some (.int .i64 z)
def L8E (w : World) (ao : Option Addr) (m : Nat) : Prop := ∀ k, k < m → ∃ g o xo n xc l, ao = some ⟨g, o, none⟩ ∧ w.cell? ⟨g, o + k, none⟩ = some (.slice xo n xc) ∧ l.length = n ∧ n ≤ 140737488351232 ∧ (xo = none → xc = 0) ∧ R8 w xo l
theorem r8_below {W X : World} {ao : Option Addr} {l : List Int} (h : R8 W ao l) (hb : Below W.heap.size W X) : R8 X ao l := fun k hk => by
  obtain ⟨g, o, e, c⟩ := h k hk
  exact ⟨g, o, e, keepc hb c⟩
/-- A row in words with marks behind them. -/
abbrev twE (b : Bt) (G : Nat) : Bt := ⟨b.n, some ⟨G, 0, none⟩, b.m, b.m + 20, b.N⟩
theorem tw_rw {W : World} {b : Bt} {G K : Nat} (hb : RzE W b) (h : Ow W G K (b.m + 20) (rmN b.N b.m 20)) : Rw W (twE b G) := by
  have h1 := rmN_wr hb.1.1 h
  exact ⟨h1.1, hb.1.2.1, h1.2⟩
abbrev slE (b : Bt) : Value := .slice b.ao b.m b.cap
/-- Four cells. -/
def q4 (a b c d : Value) : Nat → Value := fun k => if k = 0 then a else if k = 1 then b else if k = 2 then c else d
def s4 {α : Type} (a b c d : α) : Nat → α := fun k => if k = 0 then a else if k = 1 then b else if k = 2 then c else d
theorem q4_new (w : World) (a b c d : Value) (t : TypeId) : (w.alloc (.cells #[a, b, c, d] t)).rowIs w.heap.size t 4 (q4 a b c d) :=
  World.rowIs_alloc w _ _ _ (fun i hi => by
    rcases i with _ | _ | _ | _ | i
    · rfl
    · rfl
    · rfl
    · rfl
    · simp at hi; omega)
theorem q4_s4 (A B C D : Bt) (j : Nat) : q4 (slE A) (slE B) (slE C) (slE D) j = slE (s4 A B C D j) := by
  unfold q4 s4
  by_cases h0 : j = 0
  · simp [h0]
  · by_cases h1 : j = 1
    · simp [h1]
    · by_cases h2 : j = 2
      · simp [h2]
      · simp [h0, h1, h2]
theorem s4_rz {W : World} {A B C D : Bt} (a : RzE W A) (b : RzE W B) (c : RzE W C) (d : RzE W D) (j : Nat) : RzE W (s4 A B C D j) := by
  unfold s4
  split
  · exact a
  · split
    · exact b
    · split
      · exact c
      · exact d
theorem q_allE {w : World} {b t : Nat} {f : Nat → Value} (r : w.rowIs b t 4 f) (A B : Bt) : ((((w.setCell ⟨b, 0, none⟩ (.int .i64 A.n)).setCell ⟨b, 1, none⟩ (.slice A.ao A.m A.cap)).setCell ⟨b, 2, none⟩ (.int .i64 B.n)).setCell ⟨b, 3, none⟩ (.slice B.ao B.m B.cap)).rowIs b t 4 (qf A B) := by
  refine ((((r.set 0 _).set 1 _).set 2 _).set 3 _).congr fun k hk => ?_
  rcases k with _ | _ | _ | _ | k
  · rfl
  · rfl
  · rfl
  · rfl
  · omega
theorem app_one8 {ops : Array Oper} {rest : List Oper} {o : Oper} {a : Act} {Q : Exit → Act → World → Prop} {w : World} (hgd : o.guard = none) (s x : Operand)
    (ho : o.op = .call { callee := .builtin .append, args := #[s, x], argTypes := #[26, 26] }) (base : Nat) (v : Value) (l : List Int) (n : Nat) (hs : a.eval s = v) (hown : w.ownsRow base 53 1 v n (i8s l))
    (g : Nat) (y : Int) (cb : Nat) (hx : a.eval x = .slice (some ⟨g, 0, none⟩) 1 cb) (hr : w.cell? ⟨g, 0, none⟩ = some (.int .i8 y)) (hM : n ≤ 140737488351252) (hb : base ≤ w.heap.size)
    (h : ∀ v' w', w'.ownsRow base 53 1 v' (n + 1) (i8s (l ++ [y])) → w.grownBy w' v.ownBlock → wpList Try.prog ops Q rest (a.put o.dst v') w') : wpList Try.prog ops Q (o :: rest) a w := by
  obtain ⟨i0, hi, hz0, hz1, hz2⟩ := info_parts info_i8
  refine wpList_append_own w hgd s x _ ho base 53 i0 (.int .i8 0) 1 1 und_i8s hi hz0 hz1 hz2 rfl (by decide) v n (i8s l) hs hown ⟨g, 0, none⟩ 1 cb [.int .i8 y] hx rfl
    (fun j u hu => ?_) (fun u hu => by simp at hu; subst hu; rfl) (by unfold maxLen; omega) (by omega) hb ?_
  · rcases j with _ | j
    · simp at hu; subst hu; exact hr
    · simp at hu
  · intro v' w' h1 h2 _
    exact h v' w' (by rw [i8s_snoc]; exact h1) h2
theorem app_nil8 {ops : Array Oper} {rest : List Oper} {o : Oper} {a : Act} {Q : Exit → Act → World → Prop} {w : World} (hgd : o.guard = none) (s x : Operand)
    (ho : o.op = .call { callee := .builtin .append, args := #[s, x], argTypes := #[26, 26] }) (hs : a.eval s = .slice none 0 0)
    (bo : Option Addr) (l : List Int) (n cb : Nat) (hl : l.length = n) (hx : a.eval x = .slice bo n cb) (hr : R8 w bo l) (hn : bo = none → cb = 0) (hM : n ≤ 140737488351232)
    (h : ∀ v' w', w'.ownsRow w.heap.size 53 1 v' n (i8s l) → Below w.heap.size w w' → wpList Try.prog ops Q rest (a.put o.dst v') w') : wpList Try.prog ops Q (o :: rest) a w := by
  subst hl
  refine app_nil hgd s x ho hs bo l cb hx hr (fun e => ⟨?_, hn e⟩) hM h
  rcases Nat.eq_zero_or_pos l.length with h0 | h0
  · exact h0
  · obtain ⟨g, o', e', _⟩ := hr 0 h0
    rw [e] at e'
    cases e'
/-- Marks. -/
def mks (i : Nat) : List Int := (List.range i).map fun (j : Nat) => 77 + (j : Int)
theorem mks_len (i : Nat) : (mks i).length = i := by simp [mks]
theorem mks_snoc (i : Nat) : mks (i + 1) = mks i ++ [77 + (i : Int)] := by simp [mks, List.range_succ]
theorem ia_mks (l : List Int) {i j : Nat} (h : j < i) : ia (l ++ mks i) (l.length + j) = 77 + (j : Int) := by
  simp [ia, mks, List.getD, h]
theorem ia_ahead (l k : List Int) {j : Nat} (h : j < l.length) : ia (l ++ k) j = ia l j := by
  simp [ia, List.getD, List.getElem?_append_left, h]
theorem keepc2 {W X : World} {g o g' o' : Nat} {v v' : Value} (h : W.cell? ⟨g, o, none⟩ = some v) (h' : W.cell? ⟨g', o', none⟩ = some v') (hb : Below W.heap.size W X) : X.cell? ⟨g, o, none⟩ = some v ∧ X.cell? ⟨g', o', none⟩ = some v' := ⟨keepc hb h, keepc hb h'⟩
theorem own8_r8 {W : World} {base G K n : Nat} {l : List Int} (hl : l.length = n) (h : W.ownsRow base 53 1 (.slice (some ⟨G, 0, none⟩) n K) n (i8s l)) : R8 W (some ⟨G, 0, none⟩) l := by
  subst hl
  intro k hk
  have := h.cells (g := G) rfl k _ (i8s_at hk)
  exact ⟨G, 0, rfl, by rcases k with _ | k <;> simpa [Addr.add] using this⟩
theorem r8_ahead {W : World} {ao : Option Addr} {l k : List Int} (h : R8 W ao (l ++ k)) : R8 W ao l := fun j hj => by
  have := h j (by rw [List.length_append]; omega)
  rwa [ia_ahead l k hj] at this
end Go.Proofs.Ythjebjhepdclkaa
/- heddlelaw13: a Case's fourteen cells; what made makes. -/
namespace Go.Proofs.Ythjebjhepdclkaa
open Go.RowKit Go.Shelf

structure Ks where
  H : Int
  V : Int
  C : Int
  vv : Value
  r : Int
  s : Int
  sy : Int
  sx : Int
  t : Int
  l : Int
  b : Int
  q : Int
  bd : Int
  wv : Value
abbrev Ks.obj (v : Ks) : Obj := .cells #[.int .i64 v.H, .int .i64 v.V, .int .i64 v.C, v.vv, .int .i64 v.r, .int .i64 v.s, .int .i64 v.sy, .int .i64 v.sx, .int .i64 v.t, .int .i64 v.l, .int .i64 v.b, .int .i64 v.q, .int .i64 v.bd, v.wv] 29
def Ks.f (v : Ks) : Nat → Value := fun k => match k with
  | 0 => .int .i64 v.H | 1 => .int .i64 v.V | 2 => .int .i64 v.C | 3 => v.vv
  | 4 => .int .i64 v.r | 5 => .int .i64 v.s | 6 => .int .i64 v.sy | 7 => .int .i64 v.sx | 8 => .int .i64 v.t | 9 => .int .i64 v.l | 10 => .int .i64 v.b | 11 => .int .i64 v.q
  | 12 => .int .i64 v.bd | _ => v.wv
def Ks.ls (v : Ks) : List Value := [.int .i64 v.H, .int .i64 v.V, .int .i64 v.C, v.vv, .int .i64 v.r, .int .i64 v.s, .int .i64 v.sy, .int .i64 v.sx, .int .i64 v.t, .int .i64 v.l, .int .i64 v.b, .int .i64 v.q, .int .i64 v.bd, v.wv]
theorem Ks.ls_len (v : Ks) : v.ls.length = 14 := rfl
theorem Ks.ls_at (v : Ks) : ∀ j, j < 14 → v.ls[j]? = some (v.f j) := fun j hj => by
  rcases j with _ | _ | _ | _ | _ | _ | _ | _ | _ | _ | _ | _ | _ | _ | j
  all_goals first | rfl | omega
theorem Ks.ls_one (v : Ks) (h1 : v.vv.oneCell' = true) (h2 : v.wv.oneCell' = true) : v.ls.toArray.all (·.oneCell') = true := all_oneCell_toArray (by
  intro u hu
  simp only [Ks.ls, List.mem_cons, List.not_mem_nil, or_false] at hu
  rcases hu with rfl | rfl | rfl | rfl | rfl | rfl | rfl | rfl | rfl | rfl | rfl | rfl | rfl | rfl
  all_goals first | rfl | exact h1 | exact h2)
theorem info_ks : (Try.prog.info? 29).map (·.size) = some 14 := by kernel_rfl
theorem ks_range {w : World} {b : Nat} {v : Ks} (h : w.rowIs b 29 14 v.f) : w.rangeAt b 0 v.ls := fun j u hj => by
  by_cases e : j < 14
  · rw [v.ls_at j e] at hj
    cases hj
    rw [Nat.zero_add]; exact h.cell e
  · rw [List.getElem?_eq_none (by rw [v.ls_len]; omega)] at hj
    cases hj
theorem ks_there {w : World} {b : Nat} {f : Nat → Value} (h : w.rowIs b 29 14 f) : w.there b 0 14 := fun j hj => by
  rw [Nat.zero_add]; exact ⟨by rw [h.cell hj]; rfl, h.frozen j⟩
theorem ks_new (w : World) (v : Ks) : (w.alloc v.obj).rowIs w.heap.size 29 14 v.f :=
  World.rowIs_alloc w _ _ _ (fun i hi => by
    rcases i with _ | _ | _ | _ | _ | _ | _ | _ | _ | _ | _ | _ | _ | _ | i
    all_goals first | rfl | (simp at hi; omega))
/-- A window's eight cells. -/
def wiI (r s sy sx t l b q : Int) : Nat → Value := fun k => match k with
  | 0 => .int .i64 r | 1 => .int .i64 s | 2 => .int .i64 sy | 3 => .int .i64 sx | 4 => .int .i64 t | 5 => .int .i64 l | 6 => .int .i64 b | _ => .int .i64 q
theorem wiI_new (w : World) (r s sy sx t l b q : Int) : (w.alloc (.cells #[.int .i64 r, .int .i64 s, .int .i64 sy, .int .i64 sx, .int .i64 t, .int .i64 l, .int .i64 b, .int .i64 q] 25)).rowIs w.heap.size 25 8 (wiI r s sy sx t l b q) :=
  World.rowIs_alloc w _ _ _ (fun i hi => by
    rcases i with _ | _ | _ | _ | _ | _ | _ | _ | i
    all_goals first | rfl | (simp at hi; omega))
/-- The values of a list that begins anew where it ends: pluses and minuses. -/
def vlM (l : List Int) (N : Nat) : List Int := (List.range N).map fun (i : Nat) => if 0 < l.length ∧ 0 < ia l ((i + i / l.length) % l.length) then 1 else -1
/-- .. and weights. -/
def wtM (l : List Int) (N : Nat) : List Int := (List.range N).map fun (i : Nat) => if 0 < l.length then (ia l ((i + i / l.length) % l.length)).tmod 2 else 1
theorem vlM_len (l : List Int) (N : Nat) : (vlM l N).length = N := by simp [vlM]
theorem wtM_len (l : List Int) (N : Nat) : (wtM l N).length = N := by simp [wtM]
theorem vlM_snoc (l : List Int) (N : Nat) : vlM l (N + 1) = vlM l N ++ [if 0 < l.length ∧ 0 < ia l ((N + N / l.length) % l.length) then 1 else -1] := by simp [vlM, List.range_succ]
theorem wtM_snoc (l : List Int) (N : Nat) : wtM l (N + 1) = wtM l N ++ [if 0 < l.length then (ia l ((N + N / l.length) % l.length)).tmod 2 else 1] := by simp [wtM, List.range_succ]
theorem vlM_at (l : List Int) {N k : Nat} (h : k < N) : ia (vlM l N) k = if 0 < l.length ∧ 0 < ia l ((k + k / l.length) % l.length) then 1 else -1 := by
  have e : (vlM l N)[k]? = some (if 0 < l.length ∧ 0 < ia l ((k + k / l.length) % l.length) then 1 else -1) := by simp [vlM, h]
  unfold ia at e ⊢
  rw [List.getD_eq_getElem?_getD, e]
  rfl
theorem wtM_at (l : List Int) {N k : Nat} (h : k < N) : ia (wtM l N) k = if 0 < l.length then (ia l ((k + k / l.length) % l.length)).tmod 2 else 1 := by simp [ia, wtM, List.getD, h]
/-- The Case that made makes. -/
def ksM (h v c r s sy sx t l b q bd : Int) (vv wv : Value) : Ks :=
  let H := wi h 1 6
  let V := wi v 1 6
  let T := wi t 0 3
  let L := wi l 0 3
  let B := wi b 0 3
  let Q := wi q 0 3
  ⟨H, V, wi c 1 70, vv, wi r 1 (H + T + B), wi s 1 (V + L + Q), wi sy 1 4, wi sx 1 4, T, L, B, Q, wi bd (-1) 1, wv⟩
end Go.Proofs.Ythjebjhepdclkaa
/- heddlelaw13: made. -/
namespace Go.Proofs.Ythjebjhepdclkaa
open Go.RowKit Go.Shelf

/-- What made keeps: the shape's and the window's boxes, the result's block, the Case under way. -/
structure Mm (w W : World) (h v c r s sy sx t l b q : Int) (K : Ks) : Prop where
  z : w.heap.size + 4 ≤ W.heap.size
  b0 : W.rowIs w.heap.size 23 3 (hf h v c)
  b1 : W.rowIs (w.heap.size + 1) 25 8 (wiI r s sy sx t l b q)
  b2 : ∃ f, W.rowIs (w.heap.size + 2) 29 14 f
  b3 : W.rowIs (w.heap.size + 3) 29 14 K.f
  o : Below w.heap.size w W
theorem Mm.drew {w W : World} {h v c r s sy sx t l b q : Int} {K : Ks} (m : Mm w W h v c r s sy sx t l b q K) : Mm w W.drew h v c r s sy sx t l b q K := ⟨m.z, m.b0, m.b1, m.b2, m.b3, m.o.drew⟩
/-- A cell of the Case turned. -/
theorem Mm.set {w W : World} {h v c r s sy sx t l b q : Int} {K K' : Ks} (m : Mm w W h v c r s sy sx t l b q K) (i : Nat) (x : Value) (e : ∀ k, k < 14 → K'.f k = if k = i then x else K.f k) : Mm w (W.setCell ⟨w.heap.size + 3, i, none⟩ x) h v c r s sy sx t l b q K' := by
  obtain ⟨f, hf2⟩ := m.b2
  refine ⟨by have := m.z; simpa using this, m.b0.setOther (a := ⟨w.heap.size + 3, i, none⟩) (by show w.heap.size ≠ w.heap.size + 3; omega) _, m.b1.setOther (a := ⟨w.heap.size + 3, i, none⟩) (by show w.heap.size + 1 ≠ w.heap.size + 3; omega) _, ⟨f, hf2.setOther (a := ⟨w.heap.size + 3, i, none⟩) (by show w.heap.size + 2 ≠ w.heap.size + 3; omega) _⟩, (m.b3.set i x).congr fun k hk => (e k hk).symm, bl_set m.o (by omega) _⟩
theorem Mm.s0 {w W : World} {h v c r s sy sx t l b q : Int} {K : Ks} (m : Mm w W h v c r s sy sx t l b q K) (x : Int) : Mm w (W.setCell ⟨w.heap.size + 3, 0, none⟩ (.int .i64 x)) h v c r s sy sx t l b q { K with H := x } := m.set 0 _ fun k hk => by
  rcases k with _ | _ | _ | _ | _ | _ | _ | _ | _ | _ | _ | _ | _ | _ | k
  all_goals first | rfl | omega
theorem Mm.s1 {w W : World} {h v c r s sy sx t l b q : Int} {K : Ks} (m : Mm w W h v c r s sy sx t l b q K) (x : Int) : Mm w (W.setCell ⟨w.heap.size + 3, 1, none⟩ (.int .i64 x)) h v c r s sy sx t l b q { K with V := x } := m.set 1 _ fun k hk => by
  rcases k with _ | _ | _ | _ | _ | _ | _ | _ | _ | _ | _ | _ | _ | _ | k
  all_goals first | rfl | omega
theorem Mm.s2 {w W : World} {h v c r s sy sx t l b q : Int} {K : Ks} (m : Mm w W h v c r s sy sx t l b q K) (x : Int) : Mm w (W.setCell ⟨w.heap.size + 3, 2, none⟩ (.int .i64 x)) h v c r s sy sx t l b q { K with C := x } := m.set 2 _ fun k hk => by
  rcases k with _ | _ | _ | _ | _ | _ | _ | _ | _ | _ | _ | _ | _ | _ | k
  all_goals first | rfl | omega
theorem Mm.s3 {w W : World} {h v c r s sy sx t l b q : Int} {K : Ks} (m : Mm w W h v c r s sy sx t l b q K) (x : Value) : Mm w (W.setCell ⟨w.heap.size + 3, 3, none⟩ (x)) h v c r s sy sx t l b q { K with vv := x } := m.set 3 _ fun k hk => by
  rcases k with _ | _ | _ | _ | _ | _ | _ | _ | _ | _ | _ | _ | _ | _ | k
  all_goals first | rfl | omega
theorem Mm.s4 {w W : World} {h v c r s sy sx t l b q : Int} {K : Ks} (m : Mm w W h v c r s sy sx t l b q K) (x : Int) : Mm w (W.setCell ⟨w.heap.size + 3, 4, none⟩ (.int .i64 x)) h v c r s sy sx t l b q { K with r := x } := m.set 4 _ fun k hk => by
  rcases k with _ | _ | _ | _ | _ | _ | _ | _ | _ | _ | _ | _ | _ | _ | k
  all_goals first | rfl | omega
theorem Mm.s5 {w W : World} {h v c r s sy sx t l b q : Int} {K : Ks} (m : Mm w W h v c r s sy sx t l b q K) (x : Int) : Mm w (W.setCell ⟨w.heap.size + 3, 5, none⟩ (.int .i64 x)) h v c r s sy sx t l b q { K with s := x } := m.set 5 _ fun k hk => by
  rcases k with _ | _ | _ | _ | _ | _ | _ | _ | _ | _ | _ | _ | _ | _ | k
  all_goals first | rfl | omega
theorem Mm.s6 {w W : World} {h v c r s sy sx t l b q : Int} {K : Ks} (m : Mm w W h v c r s sy sx t l b q K) (x : Int) : Mm w (W.setCell ⟨w.heap.size + 3, 6, none⟩ (.int .i64 x)) h v c r s sy sx t l b q { K with sy := x } := m.set 6 _ fun k hk => by
  rcases k with _ | _ | _ | _ | _ | _ | _ | _ | _ | _ | _ | _ | _ | _ | k
  all_goals first | rfl | omega
theorem Mm.s7 {w W : World} {h v c r s sy sx t l b q : Int} {K : Ks} (m : Mm w W h v c r s sy sx t l b q K) (x : Int) : Mm w (W.setCell ⟨w.heap.size + 3, 7, none⟩ (.int .i64 x)) h v c r s sy sx t l b q { K with sx := x } := m.set 7 _ fun k hk => by
  rcases k with _ | _ | _ | _ | _ | _ | _ | _ | _ | _ | _ | _ | _ | _ | k
  all_goals first | rfl | omega
theorem Mm.s8 {w W : World} {h v c r s sy sx t l b q : Int} {K : Ks} (m : Mm w W h v c r s sy sx t l b q K) (x : Int) : Mm w (W.setCell ⟨w.heap.size + 3, 8, none⟩ (.int .i64 x)) h v c r s sy sx t l b q { K with t := x } := m.set 8 _ fun k hk => by
  rcases k with _ | _ | _ | _ | _ | _ | _ | _ | _ | _ | _ | _ | _ | _ | k
  all_goals first | rfl | omega
theorem Mm.s9 {w W : World} {h v c r s sy sx t l b q : Int} {K : Ks} (m : Mm w W h v c r s sy sx t l b q K) (x : Int) : Mm w (W.setCell ⟨w.heap.size + 3, 9, none⟩ (.int .i64 x)) h v c r s sy sx t l b q { K with l := x } := m.set 9 _ fun k hk => by
  rcases k with _ | _ | _ | _ | _ | _ | _ | _ | _ | _ | _ | _ | _ | _ | k
  all_goals first | rfl | omega
theorem Mm.s10 {w W : World} {h v c r s sy sx t l b q : Int} {K : Ks} (m : Mm w W h v c r s sy sx t l b q K) (x : Int) : Mm w (W.setCell ⟨w.heap.size + 3, 10, none⟩ (.int .i64 x)) h v c r s sy sx t l b q { K with b := x } := m.set 10 _ fun k hk => by
  rcases k with _ | _ | _ | _ | _ | _ | _ | _ | _ | _ | _ | _ | _ | _ | k
  all_goals first | rfl | omega
theorem Mm.s11 {w W : World} {h v c r s sy sx t l b q : Int} {K : Ks} (m : Mm w W h v c r s sy sx t l b q K) (x : Int) : Mm w (W.setCell ⟨w.heap.size + 3, 11, none⟩ (.int .i64 x)) h v c r s sy sx t l b q { K with q := x } := m.set 11 _ fun k hk => by
  rcases k with _ | _ | _ | _ | _ | _ | _ | _ | _ | _ | _ | _ | _ | _ | k
  all_goals first | rfl | omega
theorem Mm.s12 {w W : World} {h v c r s sy sx t l b q : Int} {K : Ks} (m : Mm w W h v c r s sy sx t l b q K) (x : Int) : Mm w (W.setCell ⟨w.heap.size + 3, 12, none⟩ (.int .i64 x)) h v c r s sy sx t l b q { K with bd := x } := m.set 12 _ fun k hk => by
  rcases k with _ | _ | _ | _ | _ | _ | _ | _ | _ | _ | _ | _ | _ | _ | k
  all_goals first | rfl | omega
theorem Mm.s13 {w W : World} {h v c r s sy sx t l b q : Int} {K : Ks} (m : Mm w W h v c r s sy sx t l b q K) (x : Value) : Mm w (W.setCell ⟨w.heap.size + 3, 13, none⟩ (x)) h v c r s sy sx t l b q { K with wv := x } := m.set 13 _ fun k hk => by
  rcases k with _ | _ | _ | _ | _ | _ | _ | _ | _ | _ | _ | _ | _ | _ | k
  all_goals first | rfl | omega
theorem Mm.win {w W : World} {h v c r s sy sx t l b q : Int} {K : Ks} (m : Mm w W h v c r s sy sx t l b q K) (x0 x1 x2 x3 x4 x5 x6 x7 : Int) : Mm w (W.setCells (w.heap.size + 3) 4 [.int .i64 x0, .int .i64 x1, .int .i64 x2, .int .i64 x3, .int .i64 x4, .int .i64 x5, .int .i64 x6, .int .i64 x7]) h v c r s sy sx t l b q { K with r := x0, s := x1, sy := x2, sx := x3, t := x4, l := x5, b := x6, q := x7 } :=
  (((((((m.s4 x0).s5 x1).s6 x2).s7 x3).s8 x4).s9 x5).s10 x6).s11 x7
theorem Mm.there {w W : World} {h v c r s sy sx t l b q : Int} {K : Ks} (m : Mm w W h v c r s sy sx t l b q K) : W.there (w.heap.size + 3) 4 8 := fun j hj => ⟨by rw [m.b3.cell (i := 4 + j) (by omega)]; rfl, m.b3.frozen (4 + j)⟩
theorem info_winE : (Try.prog.info? 25).map (·.size) = some 8 := by kernel_rfl
theorem gen_listE {P : Program} {ops : Array Oper} {Q : Exit → Act → World → Prop} {rest : List Oper} {a : Act} {W : World} (p : World → Prop) (hp : p W) (h : ∀ W', p W' → wpList P ops Q rest a W') : wpList P ops Q rest a W := h W hp
theorem Mm.grow {w W W2 : World} {h v c r s sy sx t l b q : Int} {K : Ks} {ob : Obj} {base n : Nat} {u : Value} {xs : List Value} (m : Mm w W h v c r s sy sx t l b q K) (ho : W.ownsRow base 53 1 u n xs) (hb : w.heap.size ≤ base) (gr : (W.alloc ob).grownBy W2 u.ownBlock) : Mm w W2 h v c r s sy sx t l b q K := by
  obtain ⟨f, hf2⟩ := m.b2
  have hz := m.o.size
  have hB : Below w.heap.size w W2 := (m.o.alloc hz ob).grown gr (by simp; omega) (fun q hq => by have := (ho.lt q hq).1; omega)
  have h1 := row_grown (m.b0.alloc ob) (ho.alloc ob) gr (by decide)
  have h2 := row_grown (m.b1.alloc ob) (ho.alloc ob) gr (by decide)
  have h3 := row_grown (hf2.alloc ob) (ho.alloc ob) gr (by decide)
  have h4 := row_grown (m.b3.alloc ob) (ho.alloc ob) gr (by decide)
  exact ⟨by have := h4.lt; omega, h1, h2, ⟨f, h3⟩, h4, hB⟩
/-- Which place of a list that begins anew where it ends. -/
def rp (n i : Nat) : Nat := (i + i / n) % n
theorem rp_lt {n i : Nat} (h : 0 < n) : rp n i < n := Nat.mod_lt _ h
theorem vl_end {W : World} {lv : List Int} {n i b : Nat} {y : Int} {v2 : Value} (hn : lv.length = n) (ho : W.ownsRow (b + 1) 53 1 v2 (i + 1) (i8s (vlM lv i ++ [y]))) (hy : (if 0 < n ∧ 0 < ia lv (rp n i) then (1 : Int) else -1) = y) : (W.setCell ⟨b, 3, none⟩ v2).ownsRow (b + 1) 53 1 v2 (i + 1) (i8s (vlM lv (i + 1))) := by
  rw [vlM_snoc, hn]
  unfold rp at hy
  rw [hy]
  exact ownsRow_setCell_below ho (by show b < b + 1; omega) _
theorem app_one8a {ops : Array Oper} {rest : List Oper} {o : Oper} {a : Act} {Q : Exit → Act → World → Prop} {w : World} (hgd : o.guard = none) (s x : Operand)
    (ho : o.op = .call { callee := .builtin .append, args := #[s, x], argTypes := #[26, 26] }) (base : Nat) (v : Value) (l : List Int) (n : Nat) (hs : a.eval s = v) (hown : w.ownsRow base 53 1 v n (i8s l))
    (y : Int) (hx : a.eval x = .slice (some ⟨w.heap.size, 0, none⟩) 1 1) (hM : n ≤ 140737488351252) (hb : base ≤ w.heap.size)
    (h : ∀ v' w', w'.ownsRow base 53 1 v' (n + 1) (i8s (l ++ [y])) → (w.alloc (.cells #[.int .i8 y] 53)).grownBy w' v.ownBlock → (v'.ownBlock = v.ownBlock ∨ v'.ownBlock = some (w.heap.size + 1)) → wpList Try.prog ops Q rest (a.put o.dst v') w') : wpList Try.prog ops Q (o :: rest) a (w.alloc (.cells #[.int .i8 y] 53)) := by
  obtain ⟨i0, hi, hz0, hz1, hz2⟩ := info_parts info_i8
  refine wpList_append_own_at _ hgd s x _ ho base 53 i0 (.int .i8 0) 1 1 und_i8s hi hz0 hz1 hz2 rfl (by decide) v n (i8s l) hs (hown.alloc _) ⟨w.heap.size, 0, none⟩ 1 1 [.int .i8 y] hx rfl
    (fun j u hu => ?_) (fun u hu => by simp at hu; subst hu; rfl) (by unfold maxLen; omega) (by omega) (by simp; omega) ?_
  · rcases j with _ | j
    · simp at hu; subst hu; simp [Addr.add, go_sem]
    · simp at hu
  · intro v' w' h1 h2 _ h3
    exact h v' w' (by rw [i8s_snoc]; exact h1) h2 (by simpa using h3)
/-- Two lists, apart: one grows. -/
theorem apart_grow {W W2 : World} {base n : Nat} {u x x' : Value} {xs : List Value} {ob : Obj} (hu : W.ownsRow base 53 1 u n xs) (hne : u.ownBlock = none ∨ u.ownBlock ≠ x.ownBlock) (gr : (W.alloc ob).grownBy W2 x.ownBlock) (at' : x'.ownBlock = x.ownBlock ∨ x'.ownBlock = some (W.heap.size + 1)) :
    W2.ownsRow base 53 1 u n xs ∧ (u.ownBlock = none ∨ u.ownBlock ≠ x'.ownBlock) := by
  refine ⟨own_kept2 hu hne gr, ?_⟩
  rcases hne with h | h
  · exact .inl h
  · rcases at' with e | e
    · rw [e]; exact .inr h
    · right
      rw [e]
      intro e2
      have := (hu.lt _ e2).2
      omega
theorem wt_end {W : World} {lw : List Int} {n i b : Nat} {y : Int} {v2 : Value} (hn : lw.length = n) (ho : W.ownsRow (b + 1) 53 1 v2 (i + 1) (i8s (wtM lw i ++ [y]))) (hy : (if 0 < n then (ia lw (rp n i)).tmod 2 else (1 : Int)) = y) : (W.setCell ⟨b, 13, none⟩ v2).ownsRow (b + 1) 53 1 v2 (i + 1) (i8s (wtM lw (i + 1))) := by
  rw [wtM_snoc, hn]
  unfold rp at hy
  rw [hy]
  exact ownsRow_setCell_below ho (by show b < b + 1; omega) _
theorem own_butE {w w' : World} {base g : Nat} {e : TypeId} {size n : Nat} {v : Value} {xs : List Value} (h : w.ownsRow base e size v n xs) (hb : But g w w') (hg : g < base) : w'.ownsRow base e size v n xs := by
  refine h.kept (row := some g) ⟨hb.os, hb.tape, hb.output, hb.size, fun k hk hn => hb.block k hk (fun e => hn (by rw [e]))⟩ ?_
  cases e1 : v.ownBlock with
  | none => simp
  | some k => right; intro e2; have := (h.lt k e1).1; injection e2 with e2; omega
theorem alloc_at {w : World} {o : Obj} {t n k : Nat} {f : Nat → Value} (h : (w.alloc o).rowIs w.heap.size t n f) (e : w.heap.size = k) : (w.alloc o).rowIs k t n f := e ▸ h
set_option maxHeartbeats 6400000 in
set_option maxRecDepth 100000 in
theorem madeE_any (h v c r s sy sx t l b q bd : Int) (ao : Option Addr) (lv : List Int) (n ca : Nat) (hn : lv.length = n) (bo : Option Addr) (lw : List Int) (m cb : Nat) (hm : lw.length = m) (w : World) (hnb : n ≤ 140737488351232) (hmb : m ≤ 140737488351232) (ra : R8 w ao lv) (rb : R8 w bo lw) :
    Calls Try.prog 5 #[Sg.shp h v c, Sg.win r s sy sx t l b q, .int .i64 bd, .slice ao n ca, .slice bo m cb] w fun e w' => ∃ vv wv K, K = ksM h v c r s sy sx t l b q bd vv wv ∧ e = .returned (.agg K.ls.toArray) ∧
      w'.ownsRow (w.heap.size + 4) 53 1 vv (K.H * K.V * K.C).toNat (i8s (vlM lv (K.H * K.V * K.C).toNat)) ∧ w'.ownsRow (w.heap.size + 4) 53 1 wv (K.r * K.s * K.C).toNat (i8s (wtM lw (K.r * K.s * K.C).toNat)) ∧ (vv.ownBlock = none ∨ vv.ownBlock ≠ wv.ownBlock) ∧ Below w.heap.size w w' := by
  have RA := hid1 ra
  have RB := hid1 rb
  have HN := hid1 hn
  have HM := hid1 hm
  clear ra rb hn hm
  go_enter Try.func5, Try.ntmps5
  go_upto_region 2 with fail
  refine gen_world (fun W => Mm w W h v c r s sy sx t l b q ⟨0, 0, 0, .slice none 0 0, 0, 0, 0, 0, 0, 0, 0, 0, 0, .slice none 0 0⟩) ?_ ?_
  · exact ⟨by simp, (((hf_new w _ _ _ _).alloc _).alloc _).alloc _, ((alloc_at (wiI_new _ _ _ _ _ _ _ _ _) (by simp)).alloc _).alloc _, ⟨_, (alloc_at (ks_new _ ⟨0, 0, 0, .slice none 0 0, 0, 0, 0, 0, 0, 0, 0, 0, 0, .slice none 0 0⟩) (by simp)).alloc _⟩, alloc_at (ks_new _ ⟨0, 0, 0, .slice none 0 0, 0, 0, 0, 0, 0, 0, 0, 0, 0, .slice none 0 0⟩) (by simp), bl_alloc (bl_alloc (bl_alloc (bl_alloc (Below.refl _ _) _) _) _) _⟩
  · intro W m0
    obtain ⟨H, eH⟩ : ∃ H, wi h 1 6 = H := ⟨_, rfl⟩
    obtain ⟨V, eV⟩ : ∃ V, wi v 1 6 = V := ⟨_, rfl⟩
    obtain ⟨C, eC⟩ : ∃ C, wi c 1 70 = C := ⟨_, rfl⟩
    have W1 := hid1 (fun X => withinE_any h 1 6 (by omega) (by omega) (by omega) X)
    have W2 := hid1 (fun X => withinE_any v 1 6 (by omega) (by omega) (by omega) X)
    have W3 := hid1 (fun X => withinE_any c 1 70 (by omega) (by omega) (by omega) X)
    rw [eH] at W1
    rw [eV] at W2
    rw [eC] at W3
    have c0 := hf0 m0.b0
    have c1 := hf1 m0.b0
    have c2 := hf2 m0.b0
    have k0 := m0.b3.cell (i := 0) (by omega)
    have k1 := m0.b3.cell (i := 1) (by omega)
    have k2 := m0.b3.cell (i := 2) (by omega)
    have f0 := m0.b3.frozen 0
    have f1 := m0.b3.frozen 1
    have f2 := m0.b3.frozen 2
    have z := m0.z
    have HM0 := hid1 m0
    clear m0
    refine still_tail 11 (by kernel_rfl) ?_
    simp only [List.take_succ_cons, List.take_zero, List.drop_succ_cons, List.drop_zero]
    repeat still_step
    still_call (W1.out _)
    repeat still_step
    still_call (W2.out _)
    repeat still_step
    still_call (W3.out _)
    repeat still_step
    refine wpStill_nil ?_
    go_upto_region 3 with fail
    refine gen_world (fun X => Mm w X h v c r s sy sx t l b q ⟨H, V, C, .slice none 0 0, 0, 0, 0, 0, 0, 0, 0, 0, 0, .slice none 0 0⟩) (((HM0.out.drew.s0 H).s1 V).s2 C) ?_
    clear HM0 W1 W2 W3 c0 c1 c2 k0 k1 k2 f0 f1 f2 z
    intro X m0
    obtain ⟨T, eT⟩ : ∃ x, wi t 0 3 = x := ⟨_, rfl⟩
    obtain ⟨L, eL⟩ : ∃ x, wi l 0 3 = x := ⟨_, rfl⟩
    obtain ⟨B, eB⟩ : ∃ x, wi b 0 3 = x := ⟨_, rfl⟩
    obtain ⟨Q, eQ⟩ : ∃ x, wi q 0 3 = x := ⟨_, rfl⟩
    obtain ⟨SY, eSY⟩ : ∃ x, wi sy 1 4 = x := ⟨_, rfl⟩
    obtain ⟨SX, eSX⟩ : ∃ x, wi sx 1 4 = x := ⟨_, rfl⟩
    have W1 := hid1 (fun X => withinE_any t 0 3 (by omega) (by omega) (by omega) X)
    have W2 := hid1 (fun X => withinE_any l 0 3 (by omega) (by omega) (by omega) X)
    have W3 := hid1 (fun X => withinE_any b 0 3 (by omega) (by omega) (by omega) X)
    have W4 := hid1 (fun X => withinE_any q 0 3 (by omega) (by omega) (by omega) X)
    have W5 := hid1 (fun X => withinE_any sy 1 4 (by omega) (by omega) (by omega) X)
    have W6 := hid1 (fun X => withinE_any sx 1 4 (by omega) (by omega) (by omega) X)
    rw [eT] at W1
    rw [eL] at W2
    rw [eB] at W3
    rw [eQ] at W4
    rw [eSY] at W5
    rw [eSX] at W6
    have c2 := m0.b1.cell (i := 2) (by omega)
    have c3 := m0.b1.cell (i := 3) (by omega)
    have c4 := m0.b1.cell (i := 4) (by omega)
    have c5 := m0.b1.cell (i := 5) (by omega)
    have c6 := m0.b1.cell (i := 6) (by omega)
    have c7 := m0.b1.cell (i := 7) (by omega)
    have z := m0.z
    have HM0 := hid1 m0
    clear m0
    refine still_tail 20 (by kernel_rfl) ?_
    simp only [List.take_succ_cons, List.take_zero, List.drop_succ_cons, List.drop_zero]
    repeat still_step
    still_call (W1.out _)
    repeat still_step
    still_call (W2.out _)
    repeat still_step
    still_call (W3.out _)
    repeat still_step
    still_call (W4.out _)
    repeat still_step
    still_call (W5.out _)
    repeat still_step
    still_call (W6.out _)
    repeat still_step
    refine wpStill_nil ?_
    refine wpList_store_mid rfl 25 _ _ rfl (w.heap.size + 3) 4 #[.int .i64 0, .int .i64 0, .int .i64 SY, .int .i64 SX, .int .i64 T, .int .i64 L, .int .i64 B, .int .i64 Q] (by go_simp) (by go_simp) HM0.out.drew.there info_winE (by simp [Value.oneCell']) ?_
    have HM1 := hid1 (HM0.out.drew.win 0 0 SY SX T L B Q)
    refine gen_listE (fun X => Mm w X h v c r s sy sx t l b q ⟨H, V, C, .slice none 0 0, 0, 0, SY, SX, T, L, B, Q, 0, .slice none 0 0⟩) HM1.out ?_
    clear HM0 HM1 W1 W2 W3 W4 W5 W6 c2 c3 c4 c5 c6 c7 z
    intro Y m0
    go_upto_region 4 with fail
    obtain ⟨h1, h6⟩ := (eH ▸ wi_bd (by omega) : 1 ≤ H ∧ H ≤ 6)
    obtain ⟨v1, v6⟩ := (eV ▸ wi_bd (by omega) : 1 ≤ V ∧ V ≤ 6)
    obtain ⟨c1, c70⟩ := (eC ▸ wi_bd (by omega) : 1 ≤ C ∧ C ≤ 70)
    obtain ⟨t1, t3⟩ := (eT ▸ wi_bd (by omega) : 0 ≤ T ∧ T ≤ 3)
    obtain ⟨l1, l3⟩ := (eL ▸ wi_bd (by omega) : 0 ≤ L ∧ L ≤ 3)
    obtain ⟨b1, b3⟩ := (eB ▸ wi_bd (by omega) : 0 ≤ B ∧ B ≤ 3)
    obtain ⟨q1, q3⟩ := (eQ ▸ wi_bd (by omega) : 0 ≤ Q ∧ Q ≤ 3)
    obtain ⟨R, eR⟩ : ∃ x, wi r 1 (H + T + B) = x := ⟨_, rfl⟩
    obtain ⟨S, eS⟩ : ∃ x, wi s 1 (V + L + Q) = x := ⟨_, rfl⟩
    obtain ⟨D, eD⟩ : ∃ x, wi bd (-1) 1 = x := ⟨_, rfl⟩
    have hR := wi_bd (n := r) (show 1 ≤ H + T + B by omega)
    have hS := wi_bd (n := s) (show 1 ≤ V + L + Q by omega)
    have W1 := hid1 (fun X => withinE_any r 1 (H + T + B) (by omega) (by omega) (by omega) X)
    have W2 := hid1 (fun X => withinE_any s 1 (V + L + Q) (by omega) (by omega) (by omega) X)
    have W3 := hid1 (fun X => withinE_any bd (-1) 1 (by omega) (by omega) (by omega) X)
    rw [eR] at W1 hR
    rw [eS] at W2 hS
    rw [eD] at W3
    have a1 : IntKind.i64.wrap (H + T) = H + T := by rw [IntKind.wrap_i64]; omega
    have a2 : IntKind.i64.wrap (H + T + B) = H + T + B := by rw [IntKind.wrap_i64]; omega
    have a3 : IntKind.i64.wrap (V + L) = V + L := by rw [IntKind.wrap_i64]; omega
    have a4 : IntKind.i64.wrap (V + L + Q) = V + L + Q := by rw [IntKind.wrap_i64]; omega
    have d0 : Y.cell? ⟨w.heap.size + 1, 0, none⟩ = some (.int .i64 r) := m0.b1.cell (i := 0) (by omega)
    have d1 : Y.cell? ⟨w.heap.size + 1, 1, none⟩ = some (.int .i64 s) := m0.b1.cell (i := 1) (by omega)
    have k0 : Y.cell? ⟨w.heap.size + 3, 0, none⟩ = some (.int .i64 H) := m0.b3.cell (i := 0) (by omega)
    have k1 : Y.cell? ⟨w.heap.size + 3, 1, none⟩ = some (.int .i64 V) := m0.b3.cell (i := 1) (by omega)
    have k4 : Y.cell? ⟨w.heap.size + 3, 4, none⟩ = some (.int .i64 0) := m0.b3.cell (i := 4) (by omega)
    have k5 : Y.cell? ⟨w.heap.size + 3, 5, none⟩ = some (.int .i64 0) := m0.b3.cell (i := 5) (by omega)
    have k8 : Y.cell? ⟨w.heap.size + 3, 8, none⟩ = some (.int .i64 T) := m0.b3.cell (i := 8) (by omega)
    have k9 : Y.cell? ⟨w.heap.size + 3, 9, none⟩ = some (.int .i64 L) := m0.b3.cell (i := 9) (by omega)
    have k10 : Y.cell? ⟨w.heap.size + 3, 10, none⟩ = some (.int .i64 B) := m0.b3.cell (i := 10) (by omega)
    have k11 : Y.cell? ⟨w.heap.size + 3, 11, none⟩ = some (.int .i64 Q) := m0.b3.cell (i := 11) (by omega)
    have k12 : Y.cell? ⟨w.heap.size + 3, 12, none⟩ = some (.int .i64 0) := m0.b3.cell (i := 12) (by omega)
    have f4 := m0.b3.frozen 4
    have f5 := m0.b3.frozen 5
    have f12 := m0.b3.frozen 12
    have z := m0.z
    have HM0 := hid1 m0
    clear m0
    go_wp2_with (first | (go_at_call 14; refine (W1.out _).mono ?_; rintro e y1 ⟨rfl, rfl⟩; clear W1) | (go_at_call 14; refine (W2.out _).mono ?_; rintro e y1 ⟨rfl, rfl⟩; clear W2) | (go_at_call 14; refine (W3.out _).mono ?_; rintro e y1 ⟨rfl, rfl⟩; clear W3))
    have m1 := ((HM0.out.s4 R).s5 S).s12 D
    refine gen_world (fun X => Mm w X h v c r s sy sx t l b q ⟨H, V, C, .slice none 0 0, R, S, SY, SX, T, L, B, Q, D, .slice none 0 0⟩) m1 ?_
    clear HM0 m1 d0 d1 k0 k1 k4 k5 k8 k9 k10 k11 k12 f4 f5 f12 z a1 a2 a3 a4
    intro Y1 m1
    have HM1 := hid1 m1
    obtain ⟨R1, RT⟩ := hR
    obtain ⟨S1, SS⟩ := hS
    have p1 : 0 < H * V := Int.mul_pos (by omega) (by omega)
    have p2 : H * V ≤ 6 * 6 := Int.mul_le_mul h6 v6 (by omega) (by omega)
    have p3 : 0 < H * V * C := Int.mul_pos p1 (by omega)
    have p4 : H * V * C ≤ 6 * 6 * 70 := Int.mul_le_mul p2 c70 (by omega) (by omega)
    obtain ⟨P1, eP1⟩ : ∃ x, H * V = x := ⟨_, rfl⟩
    rw [eP1] at p1 p2 p3 p4
    obtain ⟨NV, eNV⟩ : ∃ k : Nat, P1 * C = k := ⟨(P1 * C).toNat, by omega⟩
    rw [eNV] at p3 p4
    have wv1 : IntKind.i64.wrap (H * V) = P1 := by rw [eP1, IntKind.wrap_i64]; omega
    have wv2 : IntKind.i64.wrap (P1 * C) = (NV : Int) := by rw [eNV, IntKind.wrap_i64]; omega
    have hNV : NV ≤ 2520 := by omega
    have ENV := hid1 (show (H * V * C).toNat = NV by rw [eP1, eNV]; rfl)
    clear m1 eP1 eNV
    go_loopw [12] (fun x wr => ∃ (i : Nat) (u : Value), i ≤ NV ∧ x = .int .i64 i ∧ Mm w wr h v c r s sy sx t l b q ⟨H, V, C, u, R, S, SY, SX, T, L, B, Q, D, .slice none 0 0⟩ ∧ wr.ownsRow (w.heap.size + 4) 53 1 u i (i8s (vlM lv i))) (fun x _ => NV - (intOf x).toNat)
    case atStart => exact ⟨0, _, Nat.zero_le _, rfl, HM1.out, World.ownsRow_nil _ _ _ _⟩
    case round =>
      rename World => Z
      clear HM1
      obtain ⟨i, u, hi, rfl, m1, ow⟩ := hrel
      have k0 : Z.cell? ⟨w.heap.size + 3, 0, none⟩ = some (.int .i64 H) := m1.b3.cell (i := 0) (by omega)
      have k1 : Z.cell? ⟨w.heap.size + 3, 1, none⟩ = some (.int .i64 V) := m1.b3.cell (i := 1) (by omega)
      have k2 : Z.cell? ⟨w.heap.size + 3, 2, none⟩ = some (.int .i64 C) := m1.b3.cell (i := 2) (by omega)
      have HM1 := hid1 m1
      have HOW := hid1 ow
      have i0 : (0 : Int) ≤ (i : Int) := by omega
      by_cases hlt : i < NV
      · have ii : (i : Int) < (NV : Int) := by omega
        have k3 : Z.cell? ⟨w.heap.size + 3, 3, none⟩ = some u := m1.b3.cell (i := 3) (by omega)
        have z := m1.z
        have zz := m1.o.size
        clear m1 ow
        as_aux_lemma =>
          by_cases hn0 : n = 0
          · subst hn0
            go_wp2_with (at_builtin; refine app_one8 rfl _ _ rfl (w.heap.size + 4) u (vlM lv i) i (by go_simp) (HOW.out.alloc _) Z.heap.size (-1) 1 (by go_simp) (by simp [go_sem]) (by omega) (by simp; omega) ?_; intro v2 w2 ow2 gr2; obtain ⟨zo, zcp, rfl⟩ := own_form13 ow2; have m2 := HM1.out.grow HOW.out (by omega) gr2; have c3 : w2.cell? ⟨w.heap.size + 3, 3, none⟩ = some u := m2.b3.cell (i := 3) (by omega); have f3 := m2.b3.frozen 3; have z2 := m2.z; have HM2 := hid1 m2; have HO2 := hid1 ow2; clear m2 ow2 gr2)
            have o3 := vl_end HN.out HO2.out (by simp)
            exact ⟨⟨i + 1, _, by omega, by go_num, HM2.out.s3 _, o3⟩, by simp [intOf]; omega⟩
          · have n0 : 0 < n := by omega
            have in0 : (0 : Int) < (n : Int) := by omega
            have in1 : ¬ (n : Int) = 0 := by omega
            have in2 : ¬ n = 0 := by omega
            have hrl := rp_lt (i := i) n0
            obtain ⟨d, ed⟩ : ∃ d, i / n = d := ⟨_, rfl⟩
            have hdi : d ≤ i := by rw [← ed]; exact Nat.div_le_self _ _
            have idv : (i : Int) / (n : Int) = (d : Int) := by rw [← ed]; simp
            have idt : (i : Int).tdiv (n : Int) = (d : Int) := by rw [Int.tdiv_eq_ediv_of_nonneg (by omega)]; exact idv
            have wdd : IntKind.i64.wrap (d : Int) = (d : Int) := by rw [IntKind.wrap_i64]; omega
            have wid : IntKind.i64.wrap ((i : Int) + (d : Int)) = (i : Int) + (d : Int) := by rw [IntKind.wrap_i64]; omega
            obtain ⟨j, ej⟩ : ∃ j, rp n i = j := ⟨_, rfl⟩
            have ejm : (i + d) % n = j := by rw [← ej, ← ed]; rfl
            have imo : ((i : Int) + (d : Int)) % (n : Int) = (j : Int) := by rw [← ejm]; simp
            have imt : ((i : Int) + (d : Int)).tmod (n : Int) = (j : Int) := by rw [Int.tmod_eq_emod_of_nonneg (by omega)]; exact imo
            rw [ej] at hrl
            have wj : IntKind.i64.wrap (j : Int) = (j : Int) := by rw [IntKind.wrap_i64]; omega
            have j0 : (0 : Int) ≤ (j : Int) := by omega
            have jn : (j : Int) < (n : Int) := by omega
            obtain ⟨ga, oa, ea, ca⟩ := RA.out j (by rw [HN.out]; exact hrl)
            cases ea
            replace ca := keepc HM1.out.o ca
            obtain ⟨y1, ey1⟩ : ∃ y1, ia lv j = y1 := ⟨_, rfl⟩
            rw [ey1] at ca
            have EY := hid1 (show ia lv (rp n i) = y1 by rw [ej, ey1])
            clear ed ej ejm ey1
            by_cases hy1 : 0 < y1
            · have gd : decide ((0 : Int) < y1) = true := decide_eq_true hy1
              go_wp2_with (at_builtin; refine app_one8 rfl _ _ rfl (w.heap.size + 4) u (vlM lv i) i (by go_simp) (HOW.out.alloc _) Z.heap.size (1) 1 (by go_simp) (by simp [go_sem]) (by omega) (by simp; omega) ?_; intro v2 w2 ow2 gr2; obtain ⟨zo, zcp, rfl⟩ := own_form13 ow2; have m2 := HM1.out.grow HOW.out (by omega) gr2; have c3 : w2.cell? ⟨w.heap.size + 3, 3, none⟩ = some u := m2.b3.cell (i := 3) (by omega); have f3 := m2.b3.frozen 3; have z2 := m2.z; have HM2 := hid1 m2; have HO2 := hid1 ow2; clear m2 ow2 gr2)
              have o3 := vl_end HN.out HO2.out (by rw [EY.out, if_pos ⟨n0, hy1⟩])
              exact ⟨⟨i + 1, _, by omega, by go_num, HM2.out.s3 _, o3⟩, by simp [intOf]; omega⟩
            · have gd : decide ((0 : Int) < y1) = false := decide_eq_false hy1
              have HY1 := hid1 hy1
              go_wp2_with (at_builtin; refine app_one8 rfl _ _ rfl (w.heap.size + 4) u (vlM lv i) i (by go_simp) (HOW.out.alloc _) Z.heap.size (-1) 1 (by go_simp) (by simp [go_sem]) (by omega) (by simp; omega) ?_; intro v2 w2 ow2 gr2; obtain ⟨zo, zcp, rfl⟩ := own_form13 ow2; have m2 := HM1.out.grow HOW.out (by omega) gr2; have c3 : w2.cell? ⟨w.heap.size + 3, 3, none⟩ = some u := m2.b3.cell (i := 3) (by omega); have f3 := m2.b3.frozen 3; have z2 := m2.z; have HM2 := hid1 m2; have HO2 := hid1 ow2; clear m2 ow2 gr2)
              have o3 := vl_end HN.out HO2.out (by rw [EY.out, if_neg (fun hh => HY1.out hh.2)])
              exact ⟨⟨i + 1, _, by omega, by go_num, HM2.out.s3 _, o3⟩, by simp [intOf]; omega⟩
      · have hiN : i = NV := by omega
        subst hiN
        clear m1 ow k0 k1 k2
        as_aux_lemma =>
          have p1 : 0 < R * S := Int.mul_pos (by omega) (by omega)
          have p2 : R * S ≤ 12 * 12 := Int.mul_le_mul (show R ≤ 12 by omega) (show S ≤ 12 by omega) (by omega) (by omega)
          have p3 : 0 < R * S * C := Int.mul_pos p1 (by omega)
          have p4 : R * S * C ≤ 12 * 12 * 70 := Int.mul_le_mul p2 c70 (by omega) (by omega)
          obtain ⟨P2, eP2⟩ : ∃ x, R * S = x := ⟨_, rfl⟩
          rw [eP2] at p1 p2 p3 p4
          obtain ⟨NW, eNW⟩ : ∃ k : Nat, P2 * C = k := ⟨(P2 * C).toNat, by omega⟩
          rw [eNW] at p3 p4
          have wu1 : IntKind.i64.wrap (R * S) = P2 := by rw [eP2, IntKind.wrap_i64]; omega
          have wu2 : IntKind.i64.wrap (P2 * C) = (NW : Int) := by rw [eNW, IntKind.wrap_i64]; omega
          have hNW : NW ≤ 10080 := by omega
          have ENW := hid1 (show (R * S * C).toNat = NW by rw [eP2, eNW]; rfl)
          have k0 : Z.cell? ⟨w.heap.size + 3, 0, none⟩ = some (.int .i64 H) := HM1.out.b3.cell (i := 0) (by omega)
          have k1 : Z.cell? ⟨w.heap.size + 3, 1, none⟩ = some (.int .i64 V) := HM1.out.b3.cell (i := 1) (by omega)
          have k2 : Z.cell? ⟨w.heap.size + 3, 2, none⟩ = some (.int .i64 C) := HM1.out.b3.cell (i := 2) (by omega)
          clear eP2 eNW
          go_wp2_with fail
          clear k0 k1 k2
          go_loopw [14] (fun a wr => ∃ (j : Nat) (x : Value), j ≤ NW ∧ a = .int .i64 j ∧ Mm w wr h v c r s sy sx t l b q ⟨H, V, C, u, R, S, SY, SX, T, L, B, Q, D, x⟩ ∧ wr.ownsRow (w.heap.size + 4) 53 1 x j (i8s (wtM lw j)) ∧ wr.ownsRow (w.heap.size + 4) 53 1 u i (i8s (vlM lv i)) ∧ (u.ownBlock = none ∨ u.ownBlock ≠ x.ownBlock)) (fun a _ => NW - (intOf a).toNat)
          case atStart => exact ⟨0, _, Nat.zero_le _, rfl, HM1.out, World.ownsRow_nil _ _ _ _, HOW.out, by cases u.ownBlock <;> simp [Value.ownBlock]⟩
          case round =>
            rename World => Y2
            clear HM1 HOW
            obtain ⟨j, x, hj, rfl, m1, ox, ou, ne⟩ := hrel
            have k2 : Y2.cell? ⟨w.heap.size + 3, 2, none⟩ = some (.int .i64 C) := m1.b3.cell (i := 2) (by omega)
            have k4 : Y2.cell? ⟨w.heap.size + 3, 4, none⟩ = some (.int .i64 R) := m1.b3.cell (i := 4) (by omega)
            have k5 : Y2.cell? ⟨w.heap.size + 3, 5, none⟩ = some (.int .i64 S) := m1.b3.cell (i := 5) (by omega)
            have HM1 := hid1 m1
            have HOX := hid1 ox
            have HOU := hid1 ou
            have HNE := hid1 ne
            have j0 : (0 : Int) ≤ (j : Int) := by omega
            by_cases hlt2 : j < NW
            · have jj : (j : Int) < (NW : Int) := by omega
              have k13 : Y2.cell? ⟨w.heap.size + 3, 13, none⟩ = some x := m1.b3.cell (i := 13) (by omega)
              have z := m1.z
              have zz := m1.o.size
              clear m1 ox ou ne hlt hi i0
              as_aux_lemma =>
                by_cases hm0 : m = 0
                · subst hm0
                  go_wp2_with (at_builtin; refine app_one8a rfl _ _ rfl (w.heap.size + 4) x (wtM lw j) j (by go_simp) HOX.out (1) (by go_simp) (by omega) (by omega) ?_; intro v2 w2 ow2 gr2 at2; obtain ⟨zo, zcp, rfl⟩ := own_form13 ow2; have m2 := HM1.out.grow HOX.out (by omega) gr2; have c13 : w2.cell? ⟨w.heap.size + 3, 13, none⟩ = some x := m2.b3.cell (i := 13) (by omega); have f13 := m2.b3.frozen 13; have z2 := m2.z; have HM2 := hid1 m2; have HO2 := hid1 ow2; have HAP := hid1 (apart_grow HOU.out HNE.out gr2 at2); clear m2 ow2 gr2 at2)
                  have o3 := wt_end HM.out HO2.out (by simp)
                  exact ⟨⟨j + 1, _, by omega, by go_num, HM2.out.s13 _, o3, ownsRow_setCell_below HAP.out.1 (by show w.heap.size + 3 < w.heap.size + 4; omega) _, HAP.out.2⟩, by simp [intOf]; omega⟩
                · have n0 : 0 < m := by omega
                  have in0 : (0 : Int) < (m : Int) := by omega
                  have in1 : ¬ (m : Int) = 0 := by omega
                  have in2 : ¬ m = 0 := by omega
                  have hrl := rp_lt (i := j) n0
                  obtain ⟨d, ed⟩ : ∃ d, j / m = d := ⟨_, rfl⟩
                  have hdi : d ≤ j := by rw [← ed]; exact Nat.div_le_self _ _
                  have idv : (j : Int) / (m : Int) = (d : Int) := by rw [← ed]; simp
                  have idt : (j : Int).tdiv (m : Int) = (d : Int) := by rw [Int.tdiv_eq_ediv_of_nonneg (by omega)]; exact idv
                  have wdd : IntKind.i64.wrap (d : Int) = (d : Int) := by rw [IntKind.wrap_i64]; omega
                  have wid : IntKind.i64.wrap ((j : Int) + (d : Int)) = (j : Int) + (d : Int) := by rw [IntKind.wrap_i64]; omega
                  obtain ⟨p, ep⟩ : ∃ p, rp m j = p := ⟨_, rfl⟩
                  have epm : (j + d) % m = p := by rw [← ep, ← ed]; rfl
                  have imo : ((j : Int) + (d : Int)) % (m : Int) = (p : Int) := by rw [← epm]; simp
                  have imt : ((j : Int) + (d : Int)).tmod (m : Int) = (p : Int) := by rw [Int.tmod_eq_emod_of_nonneg (by omega)]; exact imo
                  rw [ep] at hrl
                  have wj : IntKind.i64.wrap (p : Int) = (p : Int) := by rw [IntKind.wrap_i64]; omega
                  have p0 : (0 : Int) ≤ (p : Int) := by omega
                  have pn : (p : Int) < (m : Int) := by omega
                  obtain ⟨ga, oa, ea, ca⟩ := RB.out p (by rw [HM.out]; exact hrl)
                  cases ea
                  replace ca := keepc HM1.out.o ca
                  obtain ⟨y1, ey1⟩ : ∃ y1, ia lw p = y1 := ⟨_, rfl⟩
                  rw [ey1] at ca
                  obtain ⟨y2, ey2⟩ : ∃ y2, y1.tmod 2 = y2 := ⟨_, rfl⟩
                  have hy2 : -2 < y2 ∧ y2 < 2 := by rw [← ey2]; have := Int.tmod_lt_of_pos y1 (show (0 : Int) < 2 by omega); have := Int.lt_tmod_of_pos y1 (show (0 : Int) < 2 by omega); omega
                  have wy : IntKind.i8.wrap y2 = y2 := by simp [IntKind.wrap, IntKind.signed, IntKind.bits]; omega
                  have EY := hid1 (show (if 0 < m then (ia lw (rp m j)).tmod 2 else (1 : Int)) = y2 by rw [if_pos n0, ep, ey1, ey2])
                  clear ed ep epm ey1
                  go_wp2_with (at_builtin; refine app_one8a rfl _ _ rfl (w.heap.size + 4) x (wtM lw j) j (by go_simp) HOX.out (y2) (by go_simp) (by omega) (by omega) ?_; intro v2 w2 ow2 gr2 at2; obtain ⟨zo, zcp, rfl⟩ := own_form13 ow2; have m2 := HM1.out.grow HOX.out (by omega) gr2; have c13 : w2.cell? ⟨w.heap.size + 3, 13, none⟩ = some x := m2.b3.cell (i := 13) (by omega); have f13 := m2.b3.frozen 13; have z2 := m2.z; have HM2 := hid1 m2; have HO2 := hid1 ow2; have HAP := hid1 (apart_grow HOU.out HNE.out gr2 at2); clear m2 ow2 gr2 at2)
                  have o3 := wt_end HM.out HO2.out (EY.out)
                  exact ⟨⟨j + 1, _, by omega, by go_num, HM2.out.s13 _, o3, ownsRow_setCell_below HAP.out.1 (by show w.heap.size + 3 < w.heap.size + 4; omega) _, HAP.out.2⟩, by simp [intOf]; omega⟩
            · have hjN : j = NW := by omega
              subst hjN
              have b3 := m1.b3
              obtain ⟨f2, b2⟩ := m1.b2
              have hz := m1.z
              have ho := m1.o
              clear m1 k2 k4 k5 HM1 HOX HOU HNE
              as_aux_lemma =>
                obtain ⟨uo, uc, rfl⟩ := own_form13 ou
                obtain ⟨xo, xc, rfl⟩ := own_form13 ox
                obtain ⟨K, eK⟩ : ∃ K : Ks, (⟨H, V, C, .slice uo i uc, R, S, SY, SX, T, L, B, Q, D, .slice xo j xc⟩ : Ks) = K := ⟨_, rfl⟩
                have k2 : Y2.cell? ⟨w.heap.size + 3, 2, none⟩ = some (.int .i64 C) := b3.cell (i := 2) (by omega)
                have k4 : Y2.cell? ⟨w.heap.size + 3, 4, none⟩ = some (.int .i64 R) := b3.cell (i := 4) (by omega)
                have k5 : Y2.cell? ⟨w.heap.size + 3, 5, none⟩ = some (.int .i64 S) := b3.cell (i := 5) (by omega)
                rw [eK] at b3
                have o1 : K.vv.oneCell' = true := by rw [← eK]; rfl
                have o2 : K.wv.oneCell' = true := by rw [← eK]; rfl
                have B3 := hid1 b3
                have B2 := hid1 b2
                have EK := hid1 eK
                have OU := hid1 ou
                have OX := hid1 ox
                clear b3 b2 eK ou ox
                go_upto_region 21 with fail
                refine wp_region_list ?_
                refine wpList_load_mid rfl 29 _ rfl (w.heap.size + 3) 0 (by go_simp) K.ls _ (ks_range B3.out) Try.underlying29 rfl info_ks ?_
                refine wpList_store_mid rfl 29 _ _ rfl (w.heap.size + 2) 0 K.ls.toArray (by go_simp) (by go_simp) (ks_there B2.out) info_ks (K.ls_one o1 o2) ?_
                go_wp2_with fail
                have btz := setCells_but (w.heap.size + 2) K.ls 0 Y2
                refine bodyPost_ret (results_cell_mid Try.results5 _ _ (w.heap.size + 2) 0 K.ls _ (by go_simp) (World.rangeAt_setCells_same Y2 _ 0 K.ls (ks_there B2.out)) Try.underlying29 rfl info_ks) rfl ?_
                refine ⟨_, _, K, ?_, rfl, ?_, ?_, ne, ?_⟩
                · rw [← EK.out]; simp only [ksM, eH, eV, eC, eT, eL, eB, eQ, eR, eS, eSY, eSX, eD]
                · rw [show (K.H * K.V * K.C).toNat = i by rw [← EK.out]; exact ENV.out]; exact own_butE OU.out btz (by omega)
                · rw [show (K.r * K.s * K.C).toNat = j by rw [← EK.out]; exact ENW.out]; exact own_butE OX.out btz (by omega)
                · exact btz.below (by omega) (by omega) ho
end Go.Proofs.Ythjebjhepdclkaa
/- heddlelaw13's cases: what See, Pack answer of them. -/
namespace Go.Proofs.Ythjebjhepdclkaa
open Go.RowKit Go.Shelf

/-- A case's numbers. -/
structure Cn (H V C R S sy sx T L B Q : Nat) : Prop where
  hH : 1 ≤ H ∧ H ≤ 6
  hV : 1 ≤ V ∧ V ≤ 6
  hC : 1 ≤ C ∧ C ≤ 70
  hR : 1 ≤ R ∧ R ≤ H + T + B
  hS : 1 ≤ S ∧ S ≤ V + L + Q
  hsy : 1 ≤ sy ∧ sy ≤ 4
  hsx : 1 ≤ sx ∧ sx ≤ 4
  hT : T ≤ 3
  hL : L ≤ 3
  hB : B ≤ 3
  hQ : Q ≤ 3
/-- How many places a window gives. -/
def oA (H T B R sy : Nat) : Nat := (T + H + B - R) / sy + 1
theorem oA_bd {H T B R sy : Nat} (h1 : H ≤ 6) (h2 : T ≤ 3) (h3 : B ≤ 3) (hR : 1 ≤ R) : 1 ≤ oA H T B R sy ∧ oA H T B R sy ≤ 12 := by
  unfold oA
  obtain ⟨x, ex⟩ : ∃ x, (T + H + B - R) / sy = x := ⟨_, rfl⟩
  have : x ≤ T + H + B - R := by rw [← ex]; exact Nat.div_le_self _ _
  rw [ex]
  omega
theorem oA_st {H T B R sy : Nat} (hR : R ≤ H + T + B) : Sg.stN H T B R sy = (oA H T B R sy : Nat) := by
  unfold Sg.stN oA
  rw [if_neg (by omega)]
  have e : ((T : Int) + (H : Int) + (B : Int) - (R : Int)) = ((T + H + B - R : Nat) : Int) := by omega
  rw [e]
  push_cast
  rfl
theorem chk_small {a b c : Nat} (ha : 1 ≤ a ∧ a ≤ 12) (hb : 1 ≤ b ∧ b ≤ 12) (hc : 1 ≤ c ∧ c ≤ 70) : Sg.chk a b c = 0 := by
  unfold Sg.chk
  have h1 : a * b ≤ 12 * 12 := Nat.mul_le_mul ha.2 hb.2
  have h2 : a * b * c ≤ 12 * 12 * 70 := Nat.mul_le_mul h1 hc.2
  have h3 : ((a : Int) * b * c) = ((a * b * c : Nat) : Int) := by push_cast; rfl
  rw [if_pos (by unfold Sg.Sides; omega), h3, if_neg (by omega)]
theorem Cn.wok {H V C R S sy sx T L B Q : Nat} (h : Cn H V C R S sy sx T L B Q) : Sg.wiE R S sy sx T L B Q = 0 := by
  obtain ⟨⟨_, _⟩, ⟨_, _⟩, _, ⟨_, _⟩, ⟨_, _⟩, ⟨_, _⟩, ⟨_, _⟩, _, _, _, _⟩ := h
  unfold Sg.wiE
  rw [if_pos (by unfold Sg.WOk Sg.SideOk; omega)]
theorem Cn.slv {H V C R S sy sx T L B Q : Nat} (h : Cn H V C R S sy sx T L B Q) : Sg.slV H V C R S sy sx T L B Q 1 = Sg.sle (oA H T B R sy : Nat) (oA V L Q S sx : Nat) 1 0 := by
  have a1 := oA_bd (sy := sy) h.hH.2 h.hT h.hB h.hR.1
  have a2 := oA_bd (sy := sx) h.hV.2 h.hL h.hQ h.hS.1
  have e1 := oA_st (sy := sy) h.hR.2
  have e2 := oA_st (sy := sx) h.hS.2
  have k1 : Sg.chk H V C = 0 := chk_small ⟨h.hH.1, by have := h.hH.2; omega⟩ ⟨h.hV.1, by have := h.hV.2; omega⟩ h.hC
  have k2 : Sg.chk (oA H T B R sy : Nat) (oA V L Q S sx : Nat) (1 : Nat) = 0 := chk_small a1 a2 ⟨by omega, by omega⟩
  have hw : Sg.WOk R S sy sx T L B Q := by
    have := h.wok
    unfold Sg.wiE at this
    by_cases hh : Sg.WOk R S sy sx T L B Q
    · exact hh
    · rw [if_neg hh] at this; omega
  have hE : Sg.slE H V C R S sy sx T L B Q 1 = 0 := by
    unfold Sg.slE
    rw [if_neg (by rw [k1]; simp), if_neg (by omega), if_neg (by simpa using hw), e1, e2, if_neg (by unfold Sg.mn2; split <;> omega)]
    exact k2
  unfold Sg.slV
  rw [if_pos hE, e1, e2]
/-- A list of patches in memory. -/
def Prw (W : World) (gL P M : Nat) (S1 S2 : Nat → Nat) : Prop := ∀ p, p < P → ∃ A1 K1 A2 K2, (W.cell? ⟨gL, p * 4, none⟩ = some (.int .i64 (64 * M : Nat)) ∧ W.cell? ⟨gL, p * 4 + 1, none⟩ = some (.slice (some ⟨A1, 0, none⟩) M K1) ∧ W.cell? ⟨gL, p * 4 + 2, none⟩ = some (.int .i64 (64 * M : Nat)) ∧ W.cell? ⟨gL, p * 4 + 3, none⟩ = some (.slice (some ⟨A2, 0, none⟩) M K2)) ∧ Wr W (some ⟨A1, 0, none⟩) M (S1 p) ∧ Wr W (some ⟨A2, 0, none⟩) M (S2 p)
theorem Prw.below {W X : World} {gL P M : Nat} {S1 S2 : Nat → Nat} (h : Prw W gL P M S1 S2) (hb : Below W.heap.size W X) : Prw X gL P M S1 S2 := fun p hp => by
  obtain ⟨A1, K1, A2, K2, ⟨c0, c1, c2, c3⟩, w1, w2⟩ := h p hp
  exact ⟨A1, K1, A2, K2, ⟨keepc hb c0, keepc hb c1, keepc hb c2, keepc hb c3⟩, w1.below hb, w2.below hb⟩
theorem Sr.prw {W : World} {z P M : Nat} {u : Value} {L : List (Bt × Bt)} {S1 S2 : Nat → Nat} (sr : Sr W z u L (List.range P) M S1 S2) (hP : 0 < P) : ∃ gL cap, u = .slice (some ⟨gL, 0, none⟩) P cap ∧ Prw W gL P M S1 S2 := by
  have hn : L.length = P := by rw [sr.n]; simp
  have ho := sr.o
  rw [hn] at ho
  rcases own_formsE ho with ⟨_, h0⟩ | ⟨gL, cap, rfl, _, _, _⟩
  · omega
  · refine ⟨gL, cap, rfl, fun p hp => ?_⟩
    obtain ⟨A1, K1, A2, K2, eL, _, _, o1, o2⟩ := sr.r p (by omega) (by simpa using hp)
    have e0 : (List.range P)[p]'(by simpa using hp) = p := by simp
    rw [e0] at eL o1 o2
    obtain ⟨h0, h1, h2, h3⟩ := rcs_at L p (by omega)
    rw [eL] at h0 h1 h2 h3
    exact ⟨A1, K1, A2, K2, ⟨own_atE ho h0, own_atE ho h1, own_atE ho h2, own_atE ho h3⟩, o1.wr, o2.wr⟩
/-- A case's tensor as words. -/
def cNE (l : List Int) (C P : Nat) : Nat := js (64 * nw C) (sp l C) P
theorem cNE_cuk {l : List Int} {H V C : Nat} (k : Sg.chk H V C = 0) : cuk H V C (H * V * nw C) (cNE l C (H * V)) = 0 := by
  unfold cuk
  rw [if_pos k]
  simp only [Int.toNat_natCast]
  have hp : Pok (H * V) C (cNE l C (H * V)) := fun i hi => by
    unfold cNE
    rw [js_pl (fun i _ => sp_words l C i) hi]
    exact sp_lt l C i
  rw [if_pos trivial, if_pos hp]
theorem seeC {H V C R S sy sx T L B Q : Nat} (h : Cn H V C R S sy sx T L B Q) (l : List Int) (g : Nat) (bd : Int) (hbd : -1 ≤ bd ∧ bd ≤ 1) (m A Bq P M N : Nat) (hm : H * V * nw C = m) (hA : oA H T B R sy = A) (hB : oA V L Q S sx = Bq) (hP : A * Bq = P) (hM : R * S * nw C = M) (hN : cNE l C (H * V) = N) (xs xm : Nat) (hxs : xs = if 0 < bd then ful C else 0) (hxm : xm = if bd = 0 then 0 else ful C) (w : World) (rd : Wr w (some ⟨g, 0, none⟩) m N) :
    Calls Try.prog 7 #[cuv H V C (some ⟨g, 0, none⟩) m m, Sg.win R S sy sx T L B Q, .int .i64 bd] w fun e w' => ∃ gL cap, e = .returned (.tuple #[.slice (some ⟨gL, 0, none⟩) P cap, Sg.shp A Bq 1, .int .i64 0]) ∧ Prw w' gL P M (seS H V C N S R sy sx T L Bq xs) (seM H V C S R sy sx T L Bq xm) ∧ Below w.heap.size w w' := by
  have a1 := oA_bd (sy := sy) h.hH.2 h.hT h.hB h.hR.1
  have a2 := oA_bd (sy := sx) h.hV.2 h.hL h.hQ h.hS.1
  rw [hA] at a1
  rw [hB] at a2
  have k1 : Sg.chk H V C = 0 := chk_small ⟨h.hH.1, by have := h.hH.2; omega⟩ ⟨h.hV.1, by have := h.hV.2; omega⟩ h.hC
  have kc := cNE_cuk (l := l) k1
  rw [hm, hN] at kc
  have ks := h.slv
  rw [hA, hB] at ks
  have hnw : nw C ≤ 2 := by have := h.hC.2; unfold nw; omega
  obtain ⟨⟨_, _⟩, ⟨_, _⟩, ⟨_, _⟩, ⟨_, _⟩, ⟨_, _⟩, ⟨_, _⟩, ⟨_, _⟩, _, _, _, _⟩ := id h
  have q1 : A * Bq ≤ 12 * 12 := Nat.mul_le_mul a1.2 a2.2
  have q2 : A * Bq * R ≤ 12 * 12 * 12 := Nat.mul_le_mul q1 (by omega)
  have q3 : A * Bq * R * S ≤ 12 * 12 * 12 * 12 := Nat.mul_le_mul q2 (by omega)
  have q4 : A * Bq * R * S * nw C ≤ 12 * 12 * 12 * 12 * 2 := Nat.mul_le_mul q3 hnw
  have m1 : H * V ≤ 6 * 6 := Nat.mul_le_mul (by omega) (by omega)
  have m2 : H * V * nw C ≤ 6 * 6 * 2 := Nat.mul_le_mul m1 hnw
  have hP0 : 0 < P := by rw [← hP]; exact Nat.mul_pos (by omega) (by omega)
  refine (see_ok H V C g 0 m m R S sy sx T L B Q A Bq N xs xm M P bd w (Nat.le_refl _) (by omega) rd (by omega) (by omega) (by omega) (by omega) (by omega) (by omega) (by omega) (by omega) (by omega) (by omega) (by omega) kc hm.symm h.wok hbd ks (by omega) hM hP hxs hxm).mono ?_
  rintro e w' ⟨u, Lr, rfl, sr, hb⟩
  obtain ⟨gL, cap, rfl, hp⟩ := sr.prw hP0
  exact ⟨gL, cap, rfl, hp, hb⟩
end Go.Proofs.Ythjebjhepdclkaa
/- PatchCounts: the counted sum is the convolution's sum: plain mathematics. -/
namespace Go.Proofs.Ythjebjhepdclkaa
open Go.RowKit Go.Shelf

theorem sm_two (f : Nat → Int) (w : Nat) : ∀ P, sm f (P * w) = sm (fun q => sm (fun k => f (q * w + k)) w) P
  | 0 => by simp [sm]
  | P + 1 => by
    have h : ∀ n, sm f (P * w + n) = sm f (P * w) + sm (fun k => f (P * w + k)) n := fun n => by
      induction n with
      | zero => simp [sm]
      | succ n ih =>
        show sm f (P * w + n) + f (P * w + n) = _
        rw [ih]
        show _ = sm f (P * w) + (sm (fun k => f (P * w + k)) n + f (P * w + n))
        omega
    rw [Nat.succ_mul, h, sm_two f w P]
    rfl
theorem sm_front {f : Nat → Int} {C : Nat} : ∀ w, C ≤ w → (∀ k, C ≤ k → k < w → f k = 0) → sm f w = sm f C
  | 0, h, _ => by obtain rfl : C = 0 := by omega
                  rfl
  | w + 1, h, hz => by
    by_cases e : C = w + 1
    · rw [e]
    · show sm f w + f w = _
      rw [hz w (by omega) (by omega), sm_front w (by omega) fun k h1 h2 => hz k h1 (by omega)]
      omega
theorem at_split {w q k : Nat} (hk : k < w) : (q * w + k) / w = q ∧ (q * w + k) % w = k := by
  have hw : 0 < w := by omega
  constructor
  · rw [Nat.mul_comm, Nat.mul_add_div hw, Nat.div_eq_of_lt hk, Nat.add_zero]
  · rw [Nat.mul_comm, Nat.mul_add_mod, Nat.mod_eq_of_lt hk]
theorem lt_place {w q k P : Nat} (hq : q < P) (hk : k < w) : q * w + k < P * w := by
  have := Nat.mul_le_mul_right w (show q + 1 ≤ P from hq)
  rw [Nat.succ_mul] at this
  omega
/-- The weights at a place's channel. -/
theorem wt_row {C P : Nat} (hC : 0 < C) (l : List Int) (hl : ∀ i, i < P * C → -1 ≤ ia l i ∧ ia l i ≤ 1) {q k : Nat} (hq : q < P) (hk : k < 64 * nw C) : wt (spN l C P) (spN (nzl l) C P) (q * (64 * nw C) + k) = if k < C then ia l (q * C + k) else 0 := by
  obtain ⟨e1, e2⟩ := at_split (q := q) hk
  have e3 := lt_place hq hk
  unfold wt
  rw [spN_bit hC, spN_bit hC, e1, e2, nzl_at]
  by_cases h : k < C
  · have hb := hl (q * C + k) (lt_place hq h)
    obtain ⟨x, ex⟩ : ∃ x, ia l (q * C + k) = x := ⟨_, rfl⟩
    rw [ex] at hb ⊢
    by_cases h0 : x = 0
    · simp [h0]
    · by_cases h1 : 0 < x
      · simp [e3, h, h0, h1]; omega
      · simp [e3, h, h0, h1]; omega
  · simp [h]
theorem ful_bitE (C k : Nat) : (ful C).testBit k = decide (k < C) := by
  unfold ful nt
  simp [Nat.testBit_two_pow_sub_one]
/-- What a place of a patch stands for. -/
def eV (H V C : Nat) (lv : List Int) (bd : Int) (y0 x0 : Int) (S q k : Nat) : Int := if Ins H V y0 x0 S q then ia lv (ixP V y0 x0 S q * C + k) else bd
/-- A patch's bits at a place's channel: its mask, and what it stands for. -/
theorem patch_bits {H V C : Nat} (hC : 0 < C) (lv : List Int) (hv : ∀ i, i < H * V * C → ia lv i = 1 ∨ ia lv i = -1) (N : Nat) (hN : cNE lv C (H * V) = N) (bd : Int) (hbd : -1 ≤ bd ∧ bd ≤ 1) (xs xm : Nat) (hxs : xs = if 0 < bd then ful C else 0) (hxm : xm = if bd = 0 then 0 else ful C) (y0 x0 : Int) (S P : Nat) {q k : Nat} (hq : q < P) (hk : k < C) :
    wt (js (64 * nw C) (plP H V (nw C) N y0 x0 S xs) P) (js (64 * nw C) (mkP H V C y0 x0 S xm) P) (q * (64 * nw C) + k) = eV H V C lv bd y0 x0 S q k ∧
    (js (64 * nw C) (mkP H V C y0 x0 S xm) P).testBit (q * (64 * nw C) + k) = (decide (Ins H V y0 x0 S q) || decide (bd ≠ 0)) := by
  have hw : C ≤ 64 * nw C := nw_le C
  have hw0 : 0 < 64 * nw C := by omega
  obtain ⟨e1, e2⟩ := at_split (w := 64 * nw C) (q := q) (k := k) (by omega)
  have e3 := lt_place (w := 64 * nw C) (k := k) hq (by omega)
  have hxs' : xs < 2 ^ (64 * nw C) := by rw [hxs]; split; exact ful_words C; exact Nat.two_pow_pos _
  have hxm' : xm < 2 ^ (64 * nw C) := by rw [hxm]; split; exact Nat.two_pow_pos _; exact ful_words C
  have b1 : ∀ i, i < P → plP H V (nw C) N y0 x0 S xs i < 2 ^ (64 * nw C) := fun i _ => by unfold plP; split; exact pl_lt _ _ _; exact hxs'
  have b2 : ∀ i, i < P → mkP H V C y0 x0 S xm i < 2 ^ (64 * nw C) := fun i _ => by unfold mkP; split; exact ful_words C; exact hxm'
  have B1 : (js (64 * nw C) (plP H V (nw C) N y0 x0 S xs) P).testBit (q * (64 * nw C) + k) = (plP H V (nw C) N y0 x0 S xs q).testBit k := by rw [js_bit hw0 P b1, e1, e2]; simp [e3]
  have B2 : (js (64 * nw C) (mkP H V C y0 x0 S xm) P).testBit (q * (64 * nw C) + k) = (mkP H V C y0 x0 S xm q).testBit k := by rw [js_bit hw0 P b2, e1, e2]; simp [e3]
  unfold wt
  rw [B1, B2]
  unfold plP mkP eV
  by_cases hin : Ins H V y0 x0 S q
  · have hix := ixP_lt hin
    have hpl : pl N (nw C) (ixP V y0 x0 S q) = sp lv C (ixP V y0 x0 S q) := by
      rw [← hN]; unfold cNE; exact js_pl (fun i _ => sp_words lv C i) hix
    rw [if_pos hin, if_pos hin, if_pos hin, hpl, ful_bitE, sp_bit]
    have hval := hv (ixP V y0 x0 S q * C + k) (lt_place hix hk)
    obtain ⟨x, ex⟩ : ∃ x, ia lv (ixP V y0 x0 S q * C + k) = x := ⟨_, rfl⟩
    rw [ex] at hval ⊢
    rcases hval with rfl | rfl <;> simp [hk, hin]
  · rw [if_neg hin, if_neg hin, if_neg hin, hxs, hxm]
    by_cases h0 : bd = 0
    · subst h0; simp [hin]
    · by_cases h1 : 0 < bd
      · obtain rfl : bd = 1 := by omega
        simp [ful_bitE, hk, hin]
      · obtain rfl : bd = -1 := by omega
        simp [ful_bitE, hk, hin]
/-- The convolution's sum at a place. -/
def cvS (H V C : Nat) (lv lw : List Int) (bd : Int) (y0 x0 : Int) (R S : Nat) : Int := sm (fun q => sm (fun k => eV H V C lv bd y0 x0 S q k * ia lw (q * C + k)) C) (R * S)
/-- .. is what is counted. -/
theorem counted {H V C : Nat} (hC : 0 < C) (lv lw : List Int) (hv : ∀ i, i < H * V * C → ia lv i = 1 ∨ ia lv i = -1) (N : Nat) (hN : cNE lv C (H * V) = N) (bd : Int) (hbd : -1 ≤ bd ∧ bd ≤ 1) (xs xm : Nat) (hxs : xs = if 0 < bd then ful C else 0) (hxm : xm = if bd = 0 then 0 else ful C) (y0 x0 : Int) (R S : Nat) (hw : ∀ i, i < R * S * C → -1 ≤ ia lw i ∧ ia lw i ≤ 1) :
    sm (fun i => wt (spN lw C (R * S)) (spN (nzl lw) C (R * S)) i * wt (js (64 * nw C) (plP H V (nw C) N y0 x0 S xs) (R * S)) (js (64 * nw C) (mkP H V C y0 x0 S xm) (R * S)) i) (R * S * (64 * nw C)) = cvS H V C lv lw bd y0 x0 R S := by
  rw [sm_two]
  unfold cvS
  refine sm_congr _ fun q hq => ?_
  rw [sm_front (C := C) (64 * nw C) (nw_le C) (fun k h1 h2 => by rw [wt_row hC lw hw hq h2, if_neg (by omega)]; simp)]
  refine sm_congr _ fun k hk => ?_
  have hk2 : k < 64 * nw C := Nat.lt_of_lt_of_le hk (nw_le C)
  rw [wt_row hC lw hw hq hk2, if_pos hk, (patch_bits hC lv hv N hN bd hbd xs xm hxs hxm y0 x0 S (R * S) hq hk).1, Int.mul_comm]
/-- .. and what is counted without the border, and the border's number times what is lost. -/
theorem counted_lost {H V C : Nat} (hC : 0 < C) (lv lw : List Int) (hv : ∀ i, i < H * V * C → ia lv i = 1 ∨ ia lv i = -1) (N : Nat) (hN : cNE lv C (H * V) = N) (bd : Int) (y0 x0 : Int) (R S : Nat) (hw : ∀ i, i < R * S * C → -1 ≤ ia lw i ∧ ia lw i ≤ 1) :
    sm (fun i => wt (spN lw C (R * S)) (spN (nzl lw) C (R * S)) i * wt (js (64 * nw C) (plP H V (nw C) N y0 x0 S 0) (R * S)) (js (64 * nw C) (mkP H V C y0 x0 S 0) (R * S)) i) (R * S * (64 * nw C)) + bd * lo (spN lw C (R * S)) (spN (nzl lw) C (R * S)) (js (64 * nw C) (mkP H V C y0 x0 S 0) (R * S)) (R * S * (64 * nw C)) = cvS H V C lv lw bd y0 x0 R S := by
  unfold lo
  rw [← sm_mul, ← sm_add, sm_two]
  unfold cvS
  refine sm_congr _ fun q hq => ?_
  rw [sm_front (C := C) (64 * nw C) (nw_le C) (fun k h1 h2 => by rw [wt_row hC lw hw hq h2, if_neg (by omega)]; simp)]
  refine sm_congr _ fun k hk => ?_
  have hk2 : k < 64 * nw C := Nat.lt_of_lt_of_le hk (nw_le C)
  obtain ⟨p1, p2⟩ := patch_bits hC lv hv N hN 0 (by omega) 0 0 (by simp) (by simp) y0 x0 S (R * S) hq hk
  rw [wt_row hC lw hw hq hk2, if_pos hk, p1, p2]
  unfold eV
  by_cases hin : Ins H V y0 x0 S q
  · simp [hin, Int.mul_comm]
  · simp [hin]
end Go.Proofs.Ythjebjhepdclkaa
/- heddlelaw13: a Case's elem and sum. -/
namespace Go.Proofs.Ythjebjhepdclkaa
open Go.RowKit Go.Shelf

/-- A Case of small numbers. -/
abbrev kN (H V C : Nat) (uo : Option Addr) (un uc : Nat) (R S sy sx T L B Q : Nat) (bd : Int) (xo : Option Addr) (xn xc : Nat) : Ks := ⟨H, V, C, .slice uo un uc, R, S, sy, sx, T, L, B, Q, bd, .slice xo xn xc⟩
abbrev Ks.val (v : Ks) : Value := .agg #[.int .i64 v.H, .int .i64 v.V, .int .i64 v.C, v.vv, .int .i64 v.r, .int .i64 v.s, .int .i64 v.sy, .int .i64 v.sx, .int .i64 v.t, .int .i64 v.l, .int .i64 v.b, .int .i64 v.q, .int .i64 v.bd, v.wv]
/-- An element, or the border's number. -/
def elV (H V C : Nat) (lv : List Int) (bd y x : Int) (k : Nat) : Int := if (0 ≤ y ∧ y < H) ∧ 0 ≤ x ∧ x < V then ia lv ((y.toNat * V + x.toNat) * C + k) else bd
end Go.Proofs.Ythjebjhepdclkaa
/- heddlelaw13: a Case's sum. -/
namespace Go.Proofs.Ythjebjhepdclkaa
open Go.RowKit Go.Shelf

/-- One product of the sum. -/
def tmE (H V C : Nat) (lv lw : List Int) (bd y0 x0 : Int) (S q k : Nat) : Int := eV H V C lv bd y0 x0 S q k * ia lw (q * C + k)
theorem eV_bd {H V C : Nat} {lv : List Int} {bd y0 x0 : Int} {S q k : Nat} (hl : ∀ i, i < H * V * C → -1 ≤ ia lv i ∧ ia lv i ≤ 1) (hbd : -1 ≤ bd ∧ bd ≤ 1) (hk : k < C) : -1 ≤ eV H V C lv bd y0 x0 S q k ∧ eV H V C lv bd y0 x0 S q k ≤ 1 := by
  unfold eV
  by_cases h : Ins H V y0 x0 S q
  · rw [if_pos h]; exact hl _ (lt_place (ixP_lt h) hk)
  · rw [if_neg h]; exact hbd
theorem mul_bd {a b : Int} (ha : -1 ≤ a ∧ a ≤ 1) (hb : -1 ≤ b ∧ b ≤ 1) : -1 ≤ a * b ∧ a * b ≤ 1 := by
  have h1 : a = -1 ∨ a = 0 ∨ a = 1 := by omega
  rcases h1 with rfl | rfl | rfl <;> omega
theorem el_eV (H V C : Nat) (lv : List Int) (bd y0 x0 : Int) {S r s k : Nat} (hs : s < S) : elV H V C lv bd (y0 + r) (x0 + s) k = eV H V C lv bd y0 x0 S (r * S + s) k := by
  obtain ⟨e1, e2⟩ := at_split (q := r) hs
  have hI : Ins H V y0 x0 S (r * S + s) ↔ (0 ≤ y0 + (r : Int) ∧ y0 + (r : Int) < H) ∧ 0 ≤ x0 + (s : Int) ∧ x0 + (s : Int) < V := by unfold Ins; rw [e1, e2]
  unfold elV eV
  by_cases h : Ins H V y0 x0 S (r * S + s)
  · rw [if_pos (hI.1 h), if_pos h]
    unfold ixP
    rw [e1, e2]
  · rw [if_neg (fun h2 => h (hI.2 h2)), if_neg h]
end Go.Proofs.Ythjebjhepdclkaa
/- blank, set, bit of package dot. -/
namespace Go.Proofs.Ythjebjhepdclkaa
open Go.RowKit

theorem wd_set (M i k : Nat) : wd (M ||| 2 ^ i) k = if k = i / 64 then wd M k ||| 2 ^ (i % 64) else wd M k := by
  rw [wd_or, wd_bit1]
  by_cases e : k = i / 64
  · rw [if_pos e, if_pos e]
  · rw [if_neg e, if_neg e]; simp

theorem ret_i8 {a b : Int} (h : a = b) : Ending.returned (.int .i8 a) = .returned (.int .i8 b) := by rw [h]
end Go.Proofs.Ythjebjhepdclkaa
/- Signs. -/
namespace Go.Proofs.Ythjebjhepdclkaa
open Go.RowKit

theorem row_drewN' {w : World} {b t n : Nat} {f : Nat → Value} (h : w.rowIs b t n f) (k : Nat) : (w.drewN k).rowIs b t n f := row_drewN h k
/-- What Signs tells. -/
def sgE (A B X : Bt) : Int := if dck A B ≠ 0 then dck A B else if ftB X.n X.m X.N A.n = true then 0 else 20
def sgV (A B X : Bt) : Int := if sgE A B X = 0 then tq B.N A.N X.N A.n.toNat else 0
theorem sgE_bad {A B X : Bt} (h : dck A B ≠ 0) : sgE A B X = dck A B := by unfold sgE; rw [if_pos h]
theorem sgV_bad {A B X : Bt} (h : dck A B ≠ 0) : sgV A B X = 0 := by unfold sgV; rw [if_neg (by rw [sgE_bad h]; exact h)]
theorem tq_end {C A B n : Nat} (h : C < 2 ^ n) : tq C A B (64 * nw n) = tq C A B n := tq_above h A B (nw_le n)
end Go.Proofs.Ythjebjhepdclkaa
/- Some, overPlane. -/
namespace Go.Proofs.Ythjebjhepdclkaa
open Go.RowKit

/-- What Some tells. -/
def soE (A B C D : Bt) : Int := if dck A B ≠ 0 then dck A B else if dck C D ≠ 0 then dck C D else if A.n = C.n then 0 else 20
def soV (A B C D : Bt) : Int := if soE A B C D = 0 then tq (B.N &&& D.N) A.N C.N A.n.toNat else 0
theorem soE_bad {A B C D : Bt} (h : dck A B ≠ 0) : soE A B C D = dck A B := by unfold soE; rw [if_pos h]
theorem soV_bad {A B C D : Bt} (h : soE A B C D ≠ 0) : soV A B C D = 0 := by unfold soV; rw [if_neg h]
theorem q_new2 (w : World) (A B C D : Bt) (t : TypeId) : ((w.alloc (.cells #[.int .i64 A.n, .slice A.ao A.m A.cap, .int .i64 B.n, .slice B.ao B.m B.cap] t)).alloc (.cells #[.int .i64 C.n, .slice C.ao C.m C.cap, .int .i64 D.n, .slice D.ao D.m D.cap] t)).rowIs (w.heap.size + 1) t 4 (qf C D) := by
  have := q_new (w.alloc (.cells #[.int .i64 A.n, .slice A.ao A.m A.cap, .int .i64 B.n, .slice B.ao B.m B.cap] t)) C D t
  simpa using this
end Go.Proofs.Ythjebjhepdclkaa
/- PatchCounts: its calls, of a case. -/
namespace Go.Proofs.Ythjebjhepdclkaa
open Go.RowKit Go.Shelf

/-- What Check tells of a row of full words: nothing, if its signs count. -/
theorem dck_full {M c1 c2 S X : Nat} {a1 a2 : Option Addr} (hM : M ≤ 262144) (h1 : S < 2 ^ (64 * M)) (h2 : X < 2 ^ (64 * M)) (h : S &&& X = S) : dck ⟨(64 * M : Nat), a1, M, c1, S⟩ ⟨(64 * M : Nat), a2, M, c2, X⟩ = 0 := by
  have hn : nw (64 * M) = M := by unfold nw; omega
  have hc : ∀ N, N < 2 ^ (64 * M) → chk ((64 * M : Nat) : Int) M N = 0 := fun N hN => by
    unfold chk
    rw [if_neg (by omega), if_neg (by omega), Int.toNat_natCast, hn, if_neg (by simp), if_pos hN]
  unfold dck
  rw [if_neg, if_pos h]
  simp only [Bt.chk, ftB]
  rw [hc _ h1, hc _ h2]
  simp
theorem sub_of_bits {S X : Nat} (h : ∀ i, S.testBit i = true → X.testBit i = true) : S &&& X = S := by
  refine Nat.eq_of_testBit_eq fun i => ?_
  rw [Nat.testBit_and]
  cases e : S.testBit i
  · simp
  · simp [h i e]
theorem row_sub {C : Nat} (hC : 0 < C) (l : List Int) (P : Nat) : spN l C P &&& spN (nzl l) C P = spN l C P := sub_of_bits fun i h => by
  rw [spN_bit hC] at h ⊢
  rw [nzl_at]
  simp only [Bool.and_eq_true, decide_eq_true_eq] at h ⊢
  refine ⟨h.1, h.2.1, ?_⟩
  rw [if_neg (by have := h.2.2; omega)]
  omega
theorem patch_sub {H V C N : Nat} (hC : 0 < C) (lv : List Int) (hN : cNE lv C (H * V) = N) (bd : Int) (hbd : -1 ≤ bd ∧ bd ≤ 1) (xs xm : Nat) (hxs : xs = if 0 < bd then ful C else 0) (hxm : xm = if bd = 0 then 0 else ful C) (y0 x0 : Int) (S P : Nat) :
    js (64 * nw C) (plP H V (nw C) N y0 x0 S xs) P &&& js (64 * nw C) (mkP H V C y0 x0 S xm) P = js (64 * nw C) (plP H V (nw C) N y0 x0 S xs) P := by
  have hw : C ≤ 64 * nw C := nw_le C
  have hw0 : 0 < 64 * nw C := by omega
  have hxs' : xs < 2 ^ (64 * nw C) := by rw [hxs]; split; exact ful_words C; exact Nat.two_pow_pos _
  have hxm' : xm < 2 ^ (64 * nw C) := by rw [hxm]; split; exact Nat.two_pow_pos _; exact ful_words C
  have b1 : ∀ i, i < P → plP H V (nw C) N y0 x0 S xs i < 2 ^ (64 * nw C) := fun i _ => by unfold plP; split; exact pl_lt _ _ _; exact hxs'
  have b2 : ∀ i, i < P → mkP H V C y0 x0 S xm i < 2 ^ (64 * nw C) := fun i _ => by unfold mkP; split; exact ful_words C; exact hxm'
  refine sub_of_bits fun i h => ?_
  rw [js_bit hw0 P b1] at h
  rw [js_bit hw0 P b2]
  simp only [Bool.and_eq_true, decide_eq_true_eq] at h ⊢
  refine ⟨h.1, ?_⟩
  have h2 := h.2
  unfold plP at h2
  unfold mkP
  by_cases hin : Ins H V y0 x0 S (i / (64 * nw C))
  · rw [if_pos hin] at h2 ⊢
    have hpl : pl N (nw C) (ixP V y0 x0 S (i / (64 * nw C))) = sp lv C (ixP V y0 x0 S (i / (64 * nw C))) := by
      rw [← hN]; unfold cNE; exact js_pl (fun i _ => sp_words lv C i) (ixP_lt hin)
    rw [hpl, sp_bit] at h2
    rw [ful_bitE]
    simp only [Bool.and_eq_true] at h2
    exact h2.1
  · rw [if_neg hin] at h2 ⊢
    rw [hxs] at h2
    rw [hxm]
    by_cases h1 : 0 < bd
    · rw [if_pos h1] at h2
      rw [if_neg (by omega)]
      exact h2
    · rw [if_neg h1] at h2
      simp at h2
theorem se_lt {H V C N S xs P : Nat} {y0 x0 : Int} (hxs : xs < 2 ^ (64 * nw C)) : js (64 * nw C) (plP H V (nw C) N y0 x0 S xs) P < 2 ^ (64 * (P * nw C)) := js_bound fun i _ => by unfold plP; split; exact pl_lt _ _ _; exact hxs
theorem sm_lt {H V C S xm P : Nat} {y0 x0 : Int} (hxm : xm < 2 ^ (64 * nw C)) : js (64 * nw C) (mkP H V C y0 x0 S xm) P < 2 ^ (64 * (P * nw C)) := js_bound fun i _ => by unfold mkP; split; exact ful_words C; exact hxm
theorem wtM_bd (l : List Int) {N k : Nat} (h : k < N) : -1 ≤ ia (wtM l N) k ∧ ia (wtM l N) k ≤ 1 := by
  rw [wtM_at l h]
  split
  · have h1 := Int.tmod_lt_of_pos (ia l ((k + k / l.length) % l.length)) (show (0 : Int) < 2 by omega)
    have h2 := Int.lt_tmod_of_pos (ia l ((k + k / l.length) % l.length)) (show (0 : Int) < 2 by omega)
    omega
  · omega
theorem vlM_pm (l : List Int) {N k : Nat} (h : k < N) : ia (vlM l N) k = 1 ∨ ia (vlM l N) k = -1 := by
  rw [vlM_at l h]
  split
  · exact .inl rfl
  · exact .inr rfl
end Go.Proofs.Ythjebjhepdclkaa
/- PatchCounts: Lost, Pack, Spread and made, of a case. -/
namespace Go.Proofs.Ythjebjhepdclkaa
open Go.RowKit Go.Shelf

theorem cv_bd {H V C R S : Nat} {lv lw : List Int} {bd y0 x0 : Int} (hC : C ≤ 70) (hRS : R * S ≤ 144) (hv : ∀ i, i < H * V * C → -1 ≤ ia lv i ∧ ia lv i ≤ 1) (hw : ∀ i, i < R * S * C → -1 ≤ ia lw i ∧ ia lw i ≤ 1) (hbd : -1 ≤ bd ∧ bd ≤ 1) : -10080 ≤ cvS H V C lv lw bd y0 x0 R S ∧ cvS H V C lv lw bd y0 x0 R S ≤ 10080 := by
  have h1 : ∀ q, q < R * S → -(C : Int) ≤ sm (fun k => eV H V C lv bd y0 x0 S q k * ia lw (q * C + k)) C ∧ sm (fun k => eV H V C lv bd y0 x0 S q k * ia lw (q * C + k)) C ≤ C := fun q hq => by
    have h := sm_bd (f := fun k => eV H V C lv bd y0 x0 S q k * ia lw (q * C + k)) (K := 1) C (fun k hk => mul_bd (eV_bd hv hbd hk) (hw _ (lt_place hq hk)))
    rw [Int.mul_one] at h
    exact h
  have h2 := sm_bd (f := fun q => sm (fun k => eV H V C lv bd y0 x0 S q k * ia lw (q * C + k)) C) (K := (C : Int)) (R * S) h1
  have h3 : ((R * S : Nat) : Int) * C ≤ 144 * 70 := Int.mul_le_mul (by omega) (by omega) (by omega) (by omega)
  unfold cvS
  omega
theorem lostC {H V C N R S M : Nat} (hC : 1 ≤ C ∧ C ≤ 70) (hRS : R * S ≤ 144) (hM : R * S * nw C = M) (lv lw : List Int) (hv : ∀ i, i < H * V * C → ia lv i = 1 ∨ ia lv i = -1) (hw : ∀ i, i < R * S * C → -1 ≤ ia lw i ∧ ia lw i ≤ 1) (hN : cNE lv C (H * V) = N) (bd : Int) (y0 x0 : Int) (g1 k1 g2 k2 A1 K1 A2 K2 : Nat) (w : World)
    (r1 : Wr w (some ⟨g1, 0, none⟩) M (spN lw C (R * S))) (r2 : Wr w (some ⟨g2, 0, none⟩) M (spN (nzl lw) C (R * S))) (p1 : Wr w (some ⟨A1, 0, none⟩) M (js (64 * nw C) (plP H V (nw C) N y0 x0 S 0) (R * S))) (p2 : Wr w (some ⟨A2, 0, none⟩) M (js (64 * nw C) (mkP H V C y0 x0 S 0) (R * S))) :
    Calls Try.prog 13 #[rwv ⟨(64 * M : Nat), some ⟨g1, 0, none⟩, M, k1, 0⟩ ⟨(64 * M : Nat), some ⟨g2, 0, none⟩, M, k2, 0⟩, rwv ⟨(64 * M : Nat), some ⟨A1, 0, none⟩, M, K1, 0⟩ ⟨(64 * M : Nat), some ⟨A2, 0, none⟩, M, K2, 0⟩] w fun e w' => ∃ n : Int, e = .returned (.tuple #[.int .i64 n, .int .i64 0]) ∧ (-20000 ≤ n ∧ n ≤ 20000) ∧ cvS H V C lv lw 0 y0 x0 R S + bd * n = cvS H V C lv lw bd y0 x0 R S ∧ Below w.heap.size w w' := by
  have hnw : nw C ≤ 2 := by have := hC.2; unfold nw; omega
  have hMb : M ≤ 288 := by rw [← hM]; exact Nat.mul_le_mul hRS hnw
  have hm9 : M ≤ 9223372036854775807 := by omega
  have d1 : dck ⟨(64 * M : Nat), some ⟨g1, 0, none⟩, M, k1, spN lw C (R * S)⟩ ⟨(64 * M : Nat), some ⟨g2, 0, none⟩, M, k2, spN (nzl lw) C (R * S)⟩ = 0 := dck_full (by omega) r1.1 r2.1 (row_sub (by omega) lw _)
  have d2 : dck ⟨(64 * M : Nat), some ⟨A1, 0, none⟩, M, K1, js (64 * nw C) (plP H V (nw C) N y0 x0 S 0) (R * S)⟩ ⟨(64 * M : Nat), some ⟨A2, 0, none⟩, M, K2, js (64 * nw C) (mkP H V C y0 x0 S 0) (R * S)⟩ = 0 := dck_full (by omega) p1.1 p2.1 (patch_sub (by omega) lv hN 0 (by omega) 0 0 (by simp) (by simp) y0 x0 S _)
  have h := lost_any ⟨(64 * M : Nat), some ⟨g1, 0, none⟩, M, k1, spN lw C (R * S)⟩ ⟨(64 * M : Nat), some ⟨g2, 0, none⟩, M, k2, spN (nzl lw) C (R * S)⟩ ⟨(64 * M : Nat), some ⟨A1, 0, none⟩, M, K1, js (64 * nw C) (plP H V (nw C) N y0 x0 S 0) (R * S)⟩ ⟨(64 * M : Nat), some ⟨A2, 0, none⟩, M, K2, js (64 * nw C) (mkP H V C y0 x0 S 0) (R * S)⟩ w ⟨r1.1, hm9, r1.2⟩ ⟨r2.1, hm9, r2.2⟩ ⟨p1.1, hm9, p1.2⟩ ⟨p2.1, hm9, p2.2⟩
  have eE : loE ⟨(64 * M : Nat), some ⟨g1, 0, none⟩, M, k1, spN lw C (R * S)⟩ ⟨(64 * M : Nat), some ⟨g2, 0, none⟩, M, k2, spN (nzl lw) C (R * S)⟩ ⟨(64 * M : Nat), some ⟨A1, 0, none⟩, M, K1, js (64 * nw C) (plP H V (nw C) N y0 x0 S 0) (R * S)⟩ ⟨(64 * M : Nat), some ⟨A2, 0, none⟩, M, K2, js (64 * nw C) (mkP H V C y0 x0 S 0) (R * S)⟩ = 0 := by
    unfold loE
    rw [if_neg (by rw [d1]; simp), if_neg (by rw [d2]; simp), if_pos rfl]
  have eV' : loV ⟨(64 * M : Nat), some ⟨g1, 0, none⟩, M, k1, spN lw C (R * S)⟩ ⟨(64 * M : Nat), some ⟨g2, 0, none⟩, M, k2, spN (nzl lw) C (R * S)⟩ ⟨(64 * M : Nat), some ⟨A1, 0, none⟩, M, K1, js (64 * nw C) (plP H V (nw C) N y0 x0 S 0) (R * S)⟩ ⟨(64 * M : Nat), some ⟨A2, 0, none⟩, M, K2, js (64 * nw C) (mkP H V C y0 x0 S 0) (R * S)⟩ = lo (spN lw C (R * S)) (spN (nzl lw) C (R * S)) (js (64 * nw C) (mkP H V C y0 x0 S 0) (R * S)) (64 * M) := by
    unfold loV
    rw [if_pos eE]
    dsimp only
    rw [Int.toNat_natCast]
  rw [eE, eV'] at h
  refine h.mono ?_
  rintro e w' ⟨rfl, hb⟩
  refine ⟨_, rfl, ?_, ?_, hb⟩
  · have := lo_bd (spN lw C (R * S)) (spN (nzl lw) C (R * S)) (js (64 * nw C) (mkP H V C y0 x0 S 0) (R * S)) (64 * M)
    omega
  · have c0 := counted (by omega) lv lw hv N hN 0 (by omega) 0 0 (by simp) (by simp) y0 x0 R S hw
    have c1 := counted_lost (by omega) lv lw hv N hN bd y0 x0 R S hw
    rw [show 64 * M = R * S * (64 * nw C) by rw [← hM, Nat.mul_left_comm], ← c0]
    exact c1
/-- The case's tensor packed. -/
theorem packC {H V C un m N : Nat} (hH : 1 ≤ H ∧ H ≤ 6) (hV : 1 ≤ V ∧ V ≤ 6) (hC : 1 ≤ C ∧ C ≤ 70) (l : List Int) (hl : l.length = un) (hu : un = H * V * C) (hm : H * V * nw C = m) (hN : cNE l C (H * V) = N) (g o cap : Nat) (w : World) (hc : un ≤ cap) (hc2 : cap ≤ 9223372036854775807) (rd : R8 w (some ⟨g, o, none⟩) l) :
    Calls Try.prog 6 #[Sg.shp H V C, .slice (some ⟨g, o, none⟩) un cap] w fun e w' => ∃ G, e = .returned (.tuple #[cuv H V C (some ⟨G, 0, none⟩) m m, .int .i64 0]) ∧ Wr w' (some ⟨G, 0, none⟩) m N ∧ Below w.heap.size w w' := by
  have q1 : H * V ≤ 6 * 6 := Nat.mul_le_mul hH.2 hV.2
  have q2 : H * V * C ≤ 6 * 6 * 70 := Nat.mul_le_mul q1 hC.2
  refine (cpack_ok H V C l un hl g o cap w ⟨hH.1, by omega⟩ ⟨hV.1, by omega⟩ ⟨hC.1, by omega⟩ hu (by omega) hc hc2 (chk_small ⟨hH.1, by omega⟩ ⟨hV.1, by omega⟩ hC) m hm rd).mono ?_
  rintro e w' ⟨G, rfl, _, row, hb⟩
  refine ⟨G, rfl, ?_, hb⟩
  rw [← hN]
  refine row_wrE ?_ row
  unfold cNE
  rw [← hm]
  exact js_bound fun i _ => sp_words l C i
/-- The case's weights laid. -/
theorem spreadC {C R S M xn : Nat} (hC : 1 ≤ C ∧ C ≤ 70) (hRS : 1 ≤ R * S ∧ R * S ≤ 144) (hM : R * S * nw C = M) (l : List Int) (hl : l.length = xn) (hx : xn = R * S * C) (hw : ∀ i, i < R * S * C → -1 ≤ ia l i ∧ ia l i ≤ 1) (g o cap : Nat) (w : World) (rd : R8 w (some ⟨g, o, none⟩) l) :
    Calls Try.prog 12 #[.int .i64 C, .slice (some ⟨g, o, none⟩) xn cap] w fun e w' => ∃ G1 G2, e = .returned (.tuple #[rwv ⟨(64 * M : Nat), some ⟨G1, 0, none⟩, M, M, 0⟩ ⟨(64 * M : Nat), some ⟨G2, 0, none⟩, M, M, 0⟩, .int .i64 0]) ∧ Wr w' (some ⟨G1, 0, none⟩) M (spN l C (R * S)) ∧ Wr w' (some ⟨G2, 0, none⟩) M (spN (nzl l) C (R * S)) ∧ Below w.heap.size w w' := by
  have hnw : nw C ≤ 2 := by have := hC.2; unfold nw; omega
  have hMb : R * S * nw C ≤ 288 := Nat.mul_le_mul hRS.2 hnw
  refine (spread_walk C (R * S) xn xn g o cap l hl w ⟨hC.1, by omega⟩ hRS.1 hx.symm (by omega) (Nat.le_refl _) (fun k hk => hw k (by omega)) (fun h => absurd h (by omega)) rd).mono ?_
  rw [hM]
  rintro e w' ⟨⟨_, G1, G2, rfl, _, _, _, r1, r2⟩ | ⟨h, _⟩, hB⟩
  · have s1 := spN_lt l C (R * S)
    have s2 := spN_lt (nzl l) C (R * S)
    rw [hM] at s1 s2
    exact ⟨G1, G2, rfl, row_wrE s1 r1, row_wrE s2 r2, hB⟩
  · omega
/-- The case made. -/
theorem madeN (h v c r s sy sx t l b q bd : Int) (ao : Option Addr) (lv : List Int) (n ca : Nat) (hn : lv.length = n) (bo : Option Addr) (lw : List Int) (m cb : Nat) (hm : lw.length = m) (hnb : n ≤ 140737488351232) (hmb : m ≤ 140737488351232) : ∃ (H V C R S SY SX T L B Q : Nat) (D : Int), Cn H V C R S SY SX T L B Q ∧ (-1 ≤ D ∧ D ≤ 1) ∧ ∀ w : World, R8 w ao lv → R8 w bo lw →
    Calls Try.prog 5 #[Sg.shp h v c, Sg.win r s sy sx t l b q, .int .i64 bd, .slice ao n ca, .slice bo m cb] w fun e w' => ∃ gu uc gx xc, e = .returned (kN H V C (some ⟨gu, 0, none⟩) (H * V * C) uc R S SY SX T L B Q D (some ⟨gx, 0, none⟩) (R * S * C) xc).val ∧ (H * V * C ≤ uc ∧ uc ≤ 9223372036854775807) ∧ R8 w' (some ⟨gu, 0, none⟩) (vlM lv (H * V * C)) ∧ R8 w' (some ⟨gx, 0, none⟩) (wtM lw (R * S * C)) ∧ Below w.heap.size w w' := by
  have nat : ∀ {z a b : Int}, 0 ≤ a → a ≤ b → ∃ k : Nat, wi z a b = k ∧ a ≤ k ∧ (k : Int) ≤ b := fun {z a b} h1 h2 => by
    have := wi_bd (n := z) h2
    exact ⟨(wi z a b).toNat, by omega, by omega, by omega⟩
  obtain ⟨H, eH, _, _⟩ := nat (z := h) (a := 1) (b := 6) (by omega) (by omega)
  obtain ⟨V, eV, _, _⟩ := nat (z := v) (a := 1) (b := 6) (by omega) (by omega)
  obtain ⟨C, eC, _, _⟩ := nat (z := c) (a := 1) (b := 70) (by omega) (by omega)
  obtain ⟨T, eT, _, _⟩ := nat (z := t) (a := 0) (b := 3) (by omega) (by omega)
  obtain ⟨L, eL, _, _⟩ := nat (z := l) (a := 0) (b := 3) (by omega) (by omega)
  obtain ⟨B, eB, _, _⟩ := nat (z := b) (a := 0) (b := 3) (by omega) (by omega)
  obtain ⟨Q, eQ, _, _⟩ := nat (z := q) (a := 0) (b := 3) (by omega) (by omega)
  obtain ⟨SY, eSY, _, _⟩ := nat (z := sy) (a := 1) (b := 4) (by omega) (by omega)
  obtain ⟨SX, eSX, _, _⟩ := nat (z := sx) (a := 1) (b := 4) (by omega) (by omega)
  obtain ⟨R, eR, _, _⟩ := nat (z := r) (a := 1) (b := (H : Int) + T + B) (by omega) (by omega)
  obtain ⟨S, eS, _, _⟩ := nat (z := s) (a := 1) (b := (V : Int) + L + Q) (by omega) (by omega)
  have hD := wi_bd (n := bd) (show (-1 : Int) ≤ 1 by omega)
  refine ⟨H, V, C, R, S, SY, SX, T, L, B, Q, wi bd (-1) 1, ⟨by omega, by omega, by omega, by omega, by omega, by omega, by omega, by omega, by omega, by omega, by omega⟩, hD, fun w ra rb => ?_⟩
  refine (madeE_any h v c r s sy sx t l b q bd ao lv n ca hn bo lw m cb hm w hnb hmb ra rb).mono ?_
  rintro e w' ⟨vv, wv, K, eK, rfl, o1, o2, _, hb⟩
  have eK2 : K = ⟨H, V, C, vv, R, S, SY, SX, T, L, B, Q, wi bd (-1) 1, wv⟩ := by rw [eK]; simp only [ksM, eH, eV, eC, eT, eL, eB, eQ, eR, eS, eSY, eSX]
  subst eK2
  dsimp only at o1 o2
  have z1 : ((H : Int) * V * C).toNat = H * V * C := by rw [show (H : Int) * V * C = ((H * V * C : Nat) : Int) by push_cast; rfl, Int.toNat_natCast]
  have z2 : ((R : Int) * S * C).toNat = R * S * C := by rw [show (R : Int) * S * C = ((R * S * C : Nat) : Int) by push_cast; rfl, Int.toNat_natCast]
  rw [z1] at o1
  rw [z2] at o2
  have n1 : 0 < H * V * C := Nat.mul_pos (Nat.mul_pos (by omega) (by omega)) (by omega)
  have n2 : 0 < R * S * C := Nat.mul_pos (Nat.mul_pos (by omega) (by omega)) (by omega)
  obtain ⟨gu, uc, _, rfl, _, u1, u2, _, _⟩ := own_row o1 n1
  obtain ⟨gx, xc, _, rfl, _, _, _, _, _⟩ := own_row o2 n2
  exact ⟨gu, uc, gx, xc, rfl, ⟨u1, by unfold maxLen at u2; omega⟩, own8_r8 (vlM_len _ _) o1, own8_r8 (wtM_len _ _) o2, hb⟩
end Go.Proofs.Ythjebjhepdclkaa
