import Derived.Test.YtlilldgconlchaaQAPatchCounts
import Derived.Test.YtlilldgconlchaaEW2
import Derived.Test.YtlilldgconlchaaEW8
import Derived.Deep.MidRow
import Derived.Test.YtlilldgconlchaaDW2
import Derived.Test.YtlilldgconlchaaBW12
import Derived.Deep.DeepAppendWide
import Derived.Laws.AppendOwnNone
import Derived.Test.YtlilldgconlchaaKW8
import Derived.Maps.AppendAt
import Derived.Test.YtlilldgconlchaaEW1
/- PACKAGE patch: Spread. -/
namespace Go.Proofs.Ytlilldgconlchaa
open Go.RowKit Go.Shelf

set_option maxHeartbeats 3200000 in
set_option maxRecDepth 100000 in
theorem spread_walk (C P n K0 g o cap : Nat) (l : List Int) (hl : l.length = n) (w : World) (hC : 1 ≤ C ∧ C ≤ 4096) (hP : 1 ≤ P) (hn : P * C = n) (hM : P * nw C ≤ 262144) (hK0 : K0 ≤ n) (good : ∀ k, k < K0 → -1 ≤ ia l k ∧ ia l k ≤ 1) (stop : K0 < n → ¬ (-1 ≤ ia l K0 ∧ ia l K0 ≤ 1)) (rd : R8 w (some ⟨g, o, none⟩) l) :
    Calls Try.prog 16 #[.int .i64 C, .slice (some ⟨g, o, none⟩) n cap] w fun e w' => ((K0 = n ∧ ∃ G1 G2, e = .returned (.tuple #[rwv (bt (P * nw C) G1 0) (bt (P * nw C) G2 0), .int .i64 0]) ∧ w.heap.size ≤ G1 ∧ w.heap.size ≤ G2 ∧ G1 ≠ G2 ∧ w'.rowIs G1 48 (P * nw C) (wf (spN l C P)) ∧ w'.rowIs G2 48 (P * nw C) (wf (spN (nzl l) C P))) ∨
      (K0 < n ∧ e = .returned (.tuple #[rwv ⟨0, none, 0, 0, 0⟩ ⟨0, none, 0, 0, 0⟩, .int .i64 52]))) ∧ Below w.heap.size w w' := by
  have hd1 : nw C ≤ 64 := by unfold nw; omega
  have hd0 : 1 ≤ nw C := by unfold nw; omega
  have hn0 : 0 < n := by rw [← hn]; exact Nat.mul_pos hP hC.1
  have hPb : P ≤ 262144 := Nat.le_trans (Nat.le_mul_of_pos_right P hd0) hM
  have hnb : n ≤ 1073741824 := by rw [← hn]; exact Nat.mul_le_mul hPb hC.2
  obtain ⟨M, eM⟩ : ∃ M, P * nw C = M := ⟨_, rfl⟩
  have HW := hid1 (pwordsFor_any C (by omega))
  have HBL := hid1 (pblank_any M (by omega))
  have HST := hid1 (fun k (hk : k < n) => And.intro (spN_step (l := l) (C := C) (P := P) (i := k) hC.1 (by rw [hn]; exact hk)) (spN_step (l := nzl l) (C := C) (P := P) (i := k) hC.1 (by rw [hn]; exact hk)))
  have HIX : Hid (∀ k, k < n → k / C * (64 * nw C) + k % C < 64 * M ∧ k / C < P ∧ k % C < C) := fun k hk => by
    have h1 : k / C < P := Nat.div_lt_of_lt_mul (by rw [Nat.mul_comm, hn]; exact hk)
    have h2 := Nat.mod_lt k (show 0 < C by omega)
    have h3 := Nat.mul_le_mul_right (64 * nw C) (show k / C + 1 ≤ P from h1)
    rw [Nat.succ_mul] at h3
    have h4 := nw_le C
    have h5 : P * (64 * nw C) = 64 * M := by rw [← eM, Nat.mul_left_comm]
    omega
  have RD := hid1 rd
  have HL := hid1 hl
  have HG := hid1 good
  have HSP := hid1 stop
  have HN := hid1 hn
  rw [eM] at hM ⊢
  have iq : (n : Int) / (C : Int) = (P : Int) := by rw [← hn]; push_cast; exact Int.mul_ediv_cancel _ (by omega)
  have ir : (n : Int) % (C : Int) = 0 := by rw [← hn]; push_cast; exact Int.mul_emod_left _ _
  have irt : (n : Int).tmod (C : Int) = 0 := by rw [Int.tmod_eq_emod_of_nonneg (by omega)]; exact ir
  have iM : (P : Int) * (nw C : Int) = (M : Int) := by rw [← eM]; push_cast; rfl
  have wP : IntKind.i64.wrap (P : Int) = (P : Int) := by rw [IntKind.wrap_i64]; omega
  have wM : IntKind.i64.wrap (M : Int) = (M : Int) := by rw [IntKind.wrap_i64]; omega
  have wM64 : IntKind.i64.wrap ((M : Int) * 64) = (M : Int) * 64 := by rw [IntKind.wrap_i64]; omega
  have iC1 : ¬ (C : Int) < 1 := by omega
  have iC2 : ¬ (4096 : Int) < (C : Int) := by omega
  have iC0 : ¬ (C : Int) = 0 := by omega
  have iC0' : ¬ C = 0 := by omega
  have iCp : (0 : Int) < (C : Int) := by omega
  have in0 : ¬ (n : Int) = 0 := by omega
  have in0' : ¬ n = 0 := by omega
  have i64m : ¬ (16777216 : Int) < (M : Int) * 64 := by omega
  clear rd hl good stop hn
  go_enter Try.func16, Try.ntmps16
  go_wp2_with (go_at_call 45; refine (HW.out _).mono ?_; rintro e y1 ⟨rfl, rfl⟩)
  refine gen_calls (fun X => X.rowIs w.heap.size 46 4 (qf ⟨0, none, 0, 0, 0⟩ ⟨0, none, 0, 0, 0⟩) ∧ Below w.heap.size w X) ⟨q_new w ⟨0, none, 0, 0, 0⟩ ⟨0, none, 0, 0, 0⟩ _, bl_alloc (Below.refl _ _) _⟩ ?_
  rintro X ⟨b0, BX⟩
  refine (HBL.out X).mono ?_
  rintro e y1 ⟨G1, G2, rfl, hG1, hG2, hne, r1, r2, hb⟩
  have lX := b0.lt
  replace b0 := keepr hb b0
  have BY := bl_step BX hb
  have l1 := r1.lt
  have l2 := r2.lt
  clear hb BX HBL HW
  have HB0 := hid1 b0
  have HR1 := hid1 r1
  have HR2 := hid1 r2
  have HBY := hid1 BY
  clear b0 r1 r2 BY
  go_wp2_with fail
  go_loopw [47] (fun i wr => ∃ k : Nat, k ≤ K0 ∧ i = .int .i64 k ∧ wr.rowIs w.heap.size 46 4 (qf ⟨0, none, 0, 0, 0⟩ ⟨0, none, 0, 0, 0⟩) ∧ wr.rowIs y1.heap.size 46 4 (qf (bt M G1 0) (bt M G2 0)) ∧ wr.rowIs G1 48 M (wf (spN (l.take k) C P)) ∧ wr.rowIs G2 48 M (wf (spN ((nzl l).take k) C P)) ∧ Below w.heap.size w wr) (fun i _ => n - (intOf i).toNat)
  case atStart => exact ⟨0, Nat.zero_le _, rfl, HB0.out.alloc _, q_new y1 (bt M G1 0) (bt M G2 0) _, by rw [List.take_zero, spN_nil]; exact HR1.out.alloc _, by rw [List.take_zero, spN_nil]; exact HR2.out.alloc _, bl_alloc HBY.out _⟩
  case round =>
    clear HB0 HR1 HR2 HBY
    obtain ⟨k, hk, rfl, b0, b8, r1, r2, BR⟩ := hrel
    have ik0 : (0 : Int) ≤ (k : Int) := by omega
    by_cases hlt : k < n
    · have ik : (k : Int) < (n : Int) := by omega
      obtain ⟨ga, oa, ea, c8⟩ := RD.out k (by rw [HL.out]; exact hlt)
      cases ea
      replace c8 := keepc BR c8
      by_cases hg : k < K0
      · obtain ⟨w1, w2⟩ := HG.out k hg
        obtain ⟨s1, s2⟩ := HST.out k hlt
        obtain ⟨x1, x2, x3⟩ := HIX.out k hlt
        rw [nzl_at] at s2
        obtain ⟨z, ez⟩ : ∃ z, ia l k = z := ⟨_, rfl⟩
        rw [ez] at w1 w2 s1 s2 c8
        have w1' : ¬ z < -1 := by omega
        have w2' : ¬ 1 < z := by omega
        obtain ⟨pp, epp⟩ : ∃ pp, k / C = pp := ⟨_, rfl⟩
        obtain ⟨cc, ecc⟩ : ∃ cc, k % C = cc := ⟨_, rfl⟩
        have ipp : (k : Int) / (C : Int) = (pp : Int) := by rw [← epp]; simp
        have icc : (k : Int) % (C : Int) = (cc : Int) := by rw [← ecc]; simp
        have icct : (k : Int).tmod (C : Int) = (cc : Int) := by rw [Int.tmod_eq_emod_of_nonneg (by omega)]; exact icc
        rw [epp, ecc] at s1 s2 x1
        rw [epp] at x2
        rw [ecc] at x3
        obtain ⟨ix, eix⟩ : ∃ ix, pp * (64 * nw C) + cc = ix := ⟨_, rfl⟩
        rw [eix] at s1 s2 x1
        have b1 : pp * nw C ≤ 262144 := Nat.le_trans (Nat.mul_le_mul_right _ (Nat.le_of_lt x2)) (by rw [eM]; exact hM)
        obtain ⟨pd, epd⟩ : ∃ pd, pp * nw C = pd := ⟨_, rfl⟩
        have ipd : (pp : Int) * (nw C : Int) = (pd : Int) := by rw [← epd]; push_cast; rfl
        have eix' : pd * 64 + cc = ix := by rw [← eix, ← epd]; rw [Nat.mul_left_comm, Nat.mul_comm 64]
        have iix : (pd : Int) * 64 + (cc : Int) = (ix : Int) := by rw [← eix']; push_cast; rfl
        rw [epd] at b1
        have v1 : IntKind.i64.wrap (pp : Int) = (pp : Int) := by rw [IntKind.wrap_i64]; omega
        have v2 : IntKind.i64.wrap (cc : Int) = (cc : Int) := by rw [IntKind.wrap_i64]; omega
        have v3 : IntKind.i64.wrap (pd : Int) = (pd : Int) := by rw [IntKind.wrap_i64]; omega
        have v4 : IntKind.i64.wrap ((pd : Int) * 64) = (pd : Int) * 64 := by rw [IntKind.wrap_i64]; omega
        have v5 : IntKind.i64.wrap (ix : Int) = (ix : Int) := by rw [IntKind.wrap_i64]; omega
        have HSET := hid1 (fun W q1 q2 => pset_any M G1 G2 (spN (l.take k) C P) (spN ((nzl l).take k) C P) ix z W hM x1 ⟨w1, w2⟩ hne q1 q2 (spN (l.take (k + 1)) C P) (spN ((nzl l).take (k + 1)) C P) s1 (by rw [s2]; by_cases h0 : z = 0 <;> simp [h0]))
        have HB0 := hid1 b0
        have HB8 := hid1 b8
        have HR1 := hid1 r1
        have HR2 := hid1 r2
        have HBR := hid1 BR
        have lb8 := b8.lt
        clear b0 b8 r1 r2 BR s1 s2 eix eix' epp ecc epd ez
        go_wp2_with fail
        go_quiet (fail)
        go_upto_region 16 with fail
        refine gen_world (fun X => X.rowIs w.heap.size 46 4 (qf ⟨0, none, 0, 0, 0⟩ ⟨0, none, 0, 0, 0⟩) ∧ X.rowIs y1.heap.size 46 4 (qf (bt M G1 0) (bt M G2 0)) ∧ X.rowIs G1 48 M (wf (spN (l.take k) C P)) ∧ X.rowIs G2 48 M (wf (spN ((nzl l).take k) C P)) ∧ Below w.heap.size w X) ⟨row_drewN HB0.out _, row_drewN HB8.out _, row_drewN HR1.out _, row_drewN HR2.out _, bl_drewN HBR.out _⟩ ?_
        clear HB0 HB8 HR1 HR2 HBR
        rintro X ⟨b0, b8, r1, r2, BR⟩
        have c0 := q0 b8
        have c1 := q1 b8
        have c2 := q2 b8
        have c3 := q3 b8
        go_wp2_with fail
        refine (HSET.out X r1 r2).mono ?_
        rintro e y2 ⟨rfl, p1, p2, W1, bt2, bt1⟩
        have HX : Hid (y2.rowIs w.heap.size 46 4 (qf ⟨0, none, 0, 0, 0⟩ ⟨0, none, 0, 0, 0⟩) ∧ y2.rowIs y1.heap.size 46 4 (qf (bt M G1 0) (bt M G2 0)) ∧ Below w.heap.size w y2) := ⟨bt1.row (by omega) (bt2.row (by omega) b0), bt1.row (by omega) (bt2.row (by omega) b8), bt1.below (by omega) (Nat.le_trans BR.size bt2.size) (bt2.below (by omega) BR.size BR)⟩
        have HP1 := hid1 p1
        have HP2 := hid1 p2
        clear b0 b8 r1 r2 BR c0 c1 c2 c3 p1 p2 bt1 bt2
        go_wp2_with fail
        exact ⟨⟨k + 1, by omega, by go_num, HX.out.1, HX.out.2.1, HP1.out, HP2.out, HX.out.2.2⟩, by simp [intOf]; omega⟩
      · obtain rfl : k = K0 := by omega
        have hsp := HSP.out hlt
        obtain ⟨z, ez⟩ : ∃ z, ia l k = z := ⟨_, rfl⟩
        rw [ez] at hsp c8
        have f0 := b0.frozen 0
        have f1 := b0.frozen 1
        have f2 := b0.frozen 2
        have f3 := b0.frozen 3
        have d0 := q0 b0
        have d1 := q1 b0
        have d2 := q2 b0
        have d3 := q3 b0
        clear b8 r1 r2 ez
        by_cases hz : z < -1
        · go_wp2_with fail
          exact bodyPost_ret (v := .tuple #[rwv ⟨0, none, 0, 0, 0⟩ ⟨0, none, 0, 0, 0⟩, .int .i64 52]) (by simp [results, Try.results16, go_sem, d0, d1, d2, d3]) rfl ⟨.inr rfl, bl_set (bl_set (bl_set (bl_set BR (Nat.le_refl _) _) (Nat.le_refl _) _) (Nat.le_refl _) _) (Nat.le_refl _) _⟩
        · have hz2 : 1 < z := by omega
          go_wp2_with fail
          exact bodyPost_ret (v := .tuple #[rwv ⟨0, none, 0, 0, 0⟩ ⟨0, none, 0, 0, 0⟩, .int .i64 52]) (by simp [results, Try.results16, go_sem, d0, d1, d2, d3]) rfl ⟨.inr rfl, bl_set (bl_set (bl_set (bl_set BR (Nat.le_refl _) _) (Nat.le_refl _) _) (Nat.le_refl _) _) (Nat.le_refl _) _⟩
    · obtain rfl : k = K0 := by omega
      obtain rfl : k = n := by omega
      have s0 := q0 b8
      have s1 := q1 b8
      have s2 := q2 b8
      have s3 := q3 b8
      have f0 := b0.frozen 0
      have f1 := b0.frozen 1
      have f2 := b0.frozen 2
      have f3 := b0.frozen 3
      have d0 := q0 b0
      have d1 := q1 b0
      have d2 := q2 b0
      have d3 := q3 b0
      have e1 : l.take k = l := List.take_of_length_le (by rw [HL.out]; exact Nat.le_refl _)
      have e2 : (nzl l).take k = nzl l := List.take_of_length_le (by rw [nzl_len, HL.out]; exact Nat.le_refl _)
      rw [e1] at r1
      rw [e2] at r2
      have HR1 := hid1 r1
      have HR2 := hid1 r2
      clear r1 r2 e1 e2 b8
      go_wp2_with fail
      have btz : But w.heap.size wr _ := (((((But.refl w.heap.size wr).set (o := 0) (.int .i64 ((64 * M : Nat) : Int))).set (o := 1) (.slice (some ⟨G1, 0, none⟩) M M)).set (o := 2) (.int .i64 ((64 * M : Nat) : Int))).set (o := 3) (.slice (some ⟨G2, 0, none⟩) M M))
      exact bodyPost_ret (v := .tuple #[rwv (bt M G1 0) (bt M G2 0), .int .i64 0]) (by simp [results, Try.results16, go_sem, d0, d1, d2, d3]) rfl ⟨⟨G1, G2, rfl, by omega, by omega, hne, btz.row (by omega) HR1.out, btz.row (by omega) HR2.out⟩, btz.below (Nat.le_refl _) BR.size BR⟩
end Go.Proofs.Ytlilldgconlchaa
/- heddlelaw13: begun. -/
namespace Go.Proofs.Ytlilldgconlchaa
open Go.RowKit Go.Shelf

/-- The cube's words 1, 0, 1, 1; a patch's 0, 0, 0, 1; weights' 1, 1, 1, 1. -/
def nC : Nat := 6277101735386680764176071790128604879565730051895802724353
def nP : Nat := 6277101735386680763835789423207666416102355444464034512896
def nW : Nat := 6277101735386680764176071790128604879584176795969512275969
theorem nC_is : nC = 1 + 2 ^ 128 + 2 ^ 192 := by decide
theorem nP_is : nP = 2 ^ 192 := by decide
theorem nW_is : nW = 1 + 2 ^ 64 + 2 ^ 128 + 2 ^ 192 := by decide
theorem wr_four (w : World) (t : TypeId) (a b c d N : Nat) (hN : N < 2 ^ (64 * 4)) (h0 : wd N 0 = a) (h1 : wd N 1 = b) (h2 : wd N 2 = c) (h3 : wd N 3 = d) : Wr (w.alloc (.cells #[.int .u64 a, .int .u64 b, .int .u64 c, .int .u64 d] t)) (some ⟨w.heap.size, 0, none⟩) 4 N := by
  refine ⟨hN, fun k hk => ⟨w.heap.size, 0, rfl, ?_⟩⟩
  rcases (show k = 0 ∨ k = 1 ∨ k = 2 ∨ k = 3 by omega) with rfl | rfl | rfl | rfl
  · simp [go_sem, wf, h0]
  · simp [go_sem, wf, h1]
  · simp [go_sem, wf, h2]
  · simp [go_sem, wf, h3]
theorem b_slV : Sg.slV (2 : Nat) (2 : Nat) (1 : Nat) (2 : Nat) (2 : Nat) (1 : Nat) (1 : Nat) (1 : Nat) (1 : Nat) (0 : Nat) (0 : Nat) 1 = Sg.sle (2 : Nat) (2 : Nat) 1 0 := by
  unfold Sg.slV
  rw [if_pos (by decide)]
  rfl
theorem b_seS : seS 2 2 1 nC 2 2 1 1 1 1 2 0 0 = nP := by decide +kernel
theorem b_seM : seM 2 2 1 2 2 1 1 1 1 2 0 0 = nP := by decide +kernel
theorem b_spN : spN [1, 1, 1, 1] 1 4 = nW := by decide +kernel
theorem b_spM : spN (nzl [1, 1, 1, 1]) 1 4 = nW := by decide +kernel
theorem b_cuk : cuk (2 : Nat) (2 : Nat) (1 : Nat) 4 nC = 0 := by decide +kernel
theorem b_see (g : Nat) (w : World) (rd : Wr w (some ⟨g, 0, none⟩) 4 nC) :
    Calls Try.prog 12 #[cuv 2 2 1 (some ⟨g, 0, none⟩) 4 4, Sg.win 2 2 1 1 1 1 0 0, .int .i64 0] w fun e w' => ∃ gL cap A1 K1 A2 K2, e = .returned (.tuple #[.slice (some ⟨gL, 0, none⟩) 4 cap, Sg.shp 2 2 1, .int .i64 0]) ∧ (w'.cell? ⟨gL, 0, none⟩ = some (.int .i64 256) ∧ w'.cell? ⟨gL, 1, none⟩ = some (.slice (some ⟨A1, 0, none⟩) 4 K1) ∧ w'.cell? ⟨gL, 2, none⟩ = some (.int .i64 256) ∧ w'.cell? ⟨gL, 3, none⟩ = some (.slice (some ⟨A2, 0, none⟩) 4 K2)) ∧ Wr w' (some ⟨A1, 0, none⟩) 4 nP ∧ Wr w' (some ⟨A2, 0, none⟩) 4 nP ∧ Below w.heap.size w w' := by
  refine (see_ok 2 2 1 g 0 4 4 2 2 1 1 1 1 0 0 2 2 nC 0 0 4 4 0 w (by decide) (by decide) rd (by decide) (by decide) (by decide) (by decide) (by decide) (by decide) (by decide) (by decide) (by decide) (by decide) (by decide) b_cuk (by decide) (by decide) (by decide) b_slV (by decide) (by decide) (by decide) (by decide) (by decide)).mono ?_
  rintro e w' ⟨u, L, rfl, sr, hb⟩
  have hn : L.length = 4 := by rw [sr.n]; rfl
  obtain ⟨A1, K1, A2, K2, eL, _, _, o1, o2⟩ := sr.r 0 (by omega) (by decide)
  have e0 : (List.range 4)[0] = 0 := rfl
  rw [e0, b_seS, b_seM] at eL
  rw [e0, b_seS] at o1
  rw [e0, b_seM] at o2
  have ho := sr.o
  rw [hn] at ho
  rcases own_formsE ho with ⟨_, h0⟩ | ⟨gL, cap, rfl, _, _, _⟩
  · omega
  · obtain ⟨h0, h1, h2, h3⟩ := rcs_at L 0 (by omega)
    rw [eL] at h0 h1 h2 h3
    exact ⟨gL, cap, A1, K1, A2, K2, rfl, ⟨own_atE ho h0, own_atE ho h1, own_atE ho h2, own_atE ho h3⟩, o1.wr, o2.wr, hb⟩
/-- The weights 1, 1, 1, 1. -/
theorem b_r8 (w : World) (t : TypeId) : R8 (w.alloc (.cells #[.int .i8 1, .int .i8 1, .int .i8 1, .int .i8 1] t)) (some ⟨w.heap.size, 0, none⟩) [1, 1, 1, 1] := by
  intro k hk
  refine ⟨w.heap.size, 0, rfl, ?_⟩
  simp at hk
  rcases (show k = 0 ∨ k = 1 ∨ k = 2 ∨ k = 3 by omega) with rfl | rfl | rfl | rfl <;> simp [go_sem, ia]
theorem b_spread (g : Nat) (w : World) (rd : R8 w (some ⟨g, 0, none⟩) [1, 1, 1, 1]) :
    Calls Try.prog 16 #[.int .i64 1, .slice (some ⟨g, 0, none⟩) 4 4] w fun e w' => ∃ G1 G2, e = .returned (.tuple #[rwv (bt 4 G1 0) (bt 4 G2 0), .int .i64 0]) ∧ w'.rowIs G1 48 4 (wf nW) ∧ w'.rowIs G2 48 4 (wf nW) ∧ Below w.heap.size w w' := by
  refine (spread_walk 1 4 4 4 g 0 4 [1, 1, 1, 1] rfl w (by decide) (by decide) (by decide) (by decide) (by decide) (fun k hk => by rcases (show k = 0 ∨ k = 1 ∨ k = 2 ∨ k = 3 by omega) with rfl | rfl | rfl | rfl <;> decide) (fun h => absurd h (by decide)) rd).mono ?_
  rintro e w' ⟨h, hb⟩
  rcases h with ⟨_, G1, G2, rfl, _, _, _, r1, r2⟩ | ⟨h, _⟩
  · rw [b_spN] at r1
    rw [b_spM] at r2
    exact ⟨G1, G2, rfl, r1, r2, hb⟩
  · omega
theorem b_lost (g1 g2 A1 K1 A2 K2 : Nat) (w : World) (r1 : Wr w (some ⟨g1, 0, none⟩) 4 nW) (r2 : Wr w (some ⟨g2, 0, none⟩) 4 nW) (x1 : Wr w (some ⟨A1, 0, none⟩) 4 nP) (x2 : Wr w (some ⟨A2, 0, none⟩) 4 nP) :
    Calls Try.prog 19 #[rwv (bt 4 g1 0) (bt 4 g2 0), rwv (bk 4 A1 K1 0) (bk 4 A2 K2 0)] w fun e w' => e = .returned (.tuple #[.int .i64 3, .int .i64 0]) ∧ Below w.heap.size w w' := by
  have rw' : ∀ {ao : Option Addr} {N : Nat} (n : Int) (k : Nat), Wr w ao 4 N → Rw w ⟨n, ao, 4, k, N⟩ := fun n k h => ⟨h.1, by show 4 ≤ 9223372036854775807; decide, h.2⟩
  refine (lost_any ⟨256, some ⟨g1, 0, none⟩, 4, 4, nW⟩ ⟨256, some ⟨g2, 0, none⟩, 4, 4, nW⟩ ⟨256, some ⟨A1, 0, none⟩, 4, K1, nP⟩ ⟨256, some ⟨A2, 0, none⟩, 4, K2, nP⟩ w (rw' _ _ r1) (rw' _ _ r2) (rw' _ _ x1) (rw' _ _ x2)).mono ?_
  rintro e w' ⟨rfl, hb⟩
  have d1 : ∀ (a1 a2 : Option Addr) (k1 k2 : Nat), dck ⟨256, a1, 4, k1, nW⟩ ⟨256, a2, 4, k2, nW⟩ = 0 := fun a1 a2 k1 k2 => by
    have e : dck ⟨256, a1, 4, k1, nW⟩ ⟨256, a2, 4, k2, nW⟩ = dck ⟨256, none, 4, 0, nW⟩ ⟨256, none, 4, 0, nW⟩ := rfl
    rw [e]; decide +kernel
  have d2 : ∀ (a1 a2 : Option Addr) (k1 k2 : Nat), dck ⟨256, a1, 4, k1, nP⟩ ⟨256, a2, 4, k2, nP⟩ = 0 := fun a1 a2 k1 k2 => by
    have e : dck ⟨256, a1, 4, k1, nP⟩ ⟨256, a2, 4, k2, nP⟩ = dck ⟨256, none, 4, 0, nP⟩ ⟨256, none, 4, 0, nP⟩ := rfl
    rw [e]; decide +kernel
  have hE : loE ⟨256, some ⟨g1, 0, none⟩, 4, 4, nW⟩ ⟨256, some ⟨g2, 0, none⟩, 4, 4, nW⟩ ⟨256, some ⟨A1, 0, none⟩, 4, K1, nP⟩ ⟨256, some ⟨A2, 0, none⟩, 4, K2, nP⟩ = 0 := by
    unfold loE; rw [d1, d2]; rfl
  have hV : loV ⟨256, some ⟨g1, 0, none⟩, 4, 4, nW⟩ ⟨256, some ⟨g2, 0, none⟩, 4, 4, nW⟩ ⟨256, some ⟨A1, 0, none⟩, 4, K1, nP⟩ ⟨256, some ⟨A2, 0, none⟩, 4, K2, nP⟩ = 3 := by
    unfold loV; rw [if_pos hE]
    show lo nW nW nP 256 = 3
    decide +kernel
  exact ⟨by rw [hE, hV], hb⟩
theorem kpB {Z Y : World} {gL A1 K1 A2 K2 b3 : Nat} (c : Z.cell? ⟨gL, 0, none⟩ = some (.int .i64 256) ∧ Z.cell? ⟨gL, 1, none⟩ = some (.slice (some ⟨A1, 0, none⟩) 4 K1) ∧ Z.cell? ⟨gL, 2, none⟩ = some (.int .i64 256) ∧ Z.cell? ⟨gL, 3, none⟩ = some (.slice (some ⟨A2, 0, none⟩) 4 K2)) (r : Z.rowIs b3 23 3 (hf 2 2 1)) (hB : Below Z.heap.size Z Y) :
    (Y.cell? ⟨gL, 0, none⟩ = some (.int .i64 256) ∧ Y.cell? ⟨gL, 1, none⟩ = some (.slice (some ⟨A1, 0, none⟩) 4 K1) ∧ Y.cell? ⟨gL, 2, none⟩ = some (.int .i64 256) ∧ Y.cell? ⟨gL, 3, none⟩ = some (.slice (some ⟨A2, 0, none⟩) 4 K2)) ∧ (Y.cell? ⟨b3, 0, none⟩ = some (.int .i64 2) ∧ Y.cell? ⟨b3, 1, none⟩ = some (.int .i64 2) ∧ Y.cell? ⟨b3, 2, none⟩ = some (.int .i64 1)) :=
  ⟨⟨keepc hB c.1, keepc hB c.2.1, keepc hB c.2.2.1, keepc hB c.2.2.2⟩, hf0 (keepr hB r), hf1 (keepr hB r), hf2 (keepr hB r)⟩
theorem kpC {Z Y : World} {gL A1 K1 A2 K2 b5 G1 G2 : Nat} (c : Z.cell? ⟨gL, 0, none⟩ = some (.int .i64 256) ∧ Z.cell? ⟨gL, 1, none⟩ = some (.slice (some ⟨A1, 0, none⟩) 4 K1) ∧ Z.cell? ⟨gL, 2, none⟩ = some (.int .i64 256) ∧ Z.cell? ⟨gL, 3, none⟩ = some (.slice (some ⟨A2, 0, none⟩) 4 K2)) (r : Z.rowIs b5 46 4 (qf (bt 4 G1 0) (bt 4 G2 0))) (hB : Below Z.heap.size Z Y) :
    (Y.cell? ⟨gL, 0, none⟩ = some (.int .i64 256) ∧ Y.cell? ⟨gL, 1, none⟩ = some (.slice (some ⟨A1, 0, none⟩) 4 K1) ∧ Y.cell? ⟨gL, 2, none⟩ = some (.int .i64 256) ∧ Y.cell? ⟨gL, 3, none⟩ = some (.slice (some ⟨A2, 0, none⟩) 4 K2)) ∧ (Y.cell? ⟨b5, 0, none⟩ = some (.int .i64 256) ∧ Y.cell? ⟨b5, 1, none⟩ = some (.slice (some ⟨G1, 0, none⟩) 4 4) ∧ Y.cell? ⟨b5, 2, none⟩ = some (.int .i64 256) ∧ Y.cell? ⟨b5, 3, none⟩ = some (.slice (some ⟨G2, 0, none⟩) 4 4)) :=
  ⟨⟨keepc hB c.1, keepc hB c.2.1, keepc hB c.2.2.1, keepc hB c.2.2.2⟩, q0 (keepr hB r), q1 (keepr hB r), q2 (keepr hB r), q3 (keepr hB r)⟩
set_option maxHeartbeats 6400000 in
set_option maxRecDepth 100000 in
theorem pbegun_any (w : World) : Calls Try.prog 9 #[] w fun e w' => e = .returned (.bool true) ∧ Below w.heap.size w w' := by
  have hfo := follows
  go_enter Try.func9, Try.ntmps9
  go_wp2_with fail
  refine gen_calls (fun X => Wr X (some ⟨w.heap.size, 0, none⟩) 4 nC ∧ Below w.heap.size w X) ⟨(wr_four w 48 1 0 1 1 nC (by decide) (by decide) (by decide) (by decide) (by decide)).below (bl_alloc (Below.refl _ _) _), bl_alloc (bl_alloc (Below.refl _ _) _) _⟩ ?_
  rintro X ⟨rC, BX⟩
  refine (b_see w.heap.size X rC).mono ?_
  rintro e w1 ⟨gL, cap, A1, K1, A2, K2, rfl, cL, x1, x2, hb⟩
  have B1 := bl_step BX hb
  clear hb BX rC
  go_upto_region 3 with fail
  refine gen_world (fun Z => (Z.cell? ⟨gL, 0, none⟩ = some (.int .i64 256) ∧ Z.cell? ⟨gL, 1, none⟩ = some (.slice (some ⟨A1, 0, none⟩) 4 K1) ∧ Z.cell? ⟨gL, 2, none⟩ = some (.int .i64 256) ∧ Z.cell? ⟨gL, 3, none⟩ = some (.slice (some ⟨A2, 0, none⟩) 4 K2)) ∧ Z.rowIs w1.heap.size 23 3 (hf 2 2 1) ∧ Wr Z (some ⟨A1, 0, none⟩) 4 nP ∧ Wr Z (some ⟨A2, 0, none⟩) 4 nP ∧ Below w.heap.size w Z)
    ⟨⟨keepc (bl_alloc (Below.refl _ _) _) cL.1, keepc (bl_alloc (Below.refl _ _) _) cL.2.1, keepc (bl_alloc (Below.refl _ _) _) cL.2.2.1, keepc (bl_alloc (Below.refl _ _) _) cL.2.2.2⟩, hf_new _ _ _ _ _, x1.below (bl_alloc (Below.refl _ _) _), x2.below (bl_alloc (Below.refl _ _) _), bl_alloc B1 _⟩ ?_
  clear cL x1 x2 B1
  rintro Z ⟨cL, r3, x1, x2, BZ⟩
  have HCL := hid1 cL
  have HR3 := hid1 r3
  have HX1 := hid1 x1
  have HX2 := hid1 x2
  have HBZ := hid1 BZ
  clear cL r3 x1 x2 BZ
  go_cut [55] from 18 to 55 (fun s55 wx => s55 = .bool false ∧ Below Z.heap.size Z wx)
  case first =>
    go_region_held3 (fun Y => (Y.cell? ⟨gL, 0, none⟩ = some (.int .i64 256) ∧ Y.cell? ⟨gL, 1, none⟩ = some (.slice (some ⟨A1, 0, none⟩) 4 K1) ∧ Y.cell? ⟨gL, 2, none⟩ = some (.int .i64 256) ∧ Y.cell? ⟨gL, 3, none⟩ = some (.slice (some ⟨A2, 0, none⟩) 4 K2)) ∧ (Y.cell? ⟨w1.heap.size, 0, none⟩ = some (.int .i64 2) ∧ Y.cell? ⟨w1.heap.size, 1, none⟩ = some (.int .i64 2) ∧ Y.cell? ⟨w1.heap.size, 2, none⟩ = some (.int .i64 1)))
      (((try dsimp only); (with_reducible refine kpB (Z := Z) HCL.out HR3.out ?_); repeat (first | (with_reducible exact Below.refl _ _) | (with_reducible assumption) | (with_reducible refine Below.drew ?_) | (with_reducible refine bl_alloc ?_ _))))
      (first
        | (go_at_call 15; refine (pbits_same 256 4 nP _ _ _ _ _ (by decide) (HX1.out.below (by repeat (first | (with_reducible exact Below.refl _ _) | (with_reducible refine Below.drew ?_) | (with_reducible refine bl_alloc ?_ _)))) (by first | exact (wr_four Z 48 0 0 0 1 nP (by decide) (by decide) (by decide) (by decide) (by decide)).below (Below.refl _ _).drew | exact wr_four Z.drew 48 0 0 0 1 nP (by decide) (by decide) (by decide) (by decide) (by decide))).mono ?_; rintro e y1 ⟨rfl, hb⟩; have by1 : Below Z.heap.size Z y1 := (by first | exact bl_step (bl_alloc (Below.refl _ _) _).drew hb | exact bl_step (bl_alloc (Below.refl _ _).drew _) hb); clear hb)
        | (go_at_call 29; refine (prow_same (bk 4 A1 K1 0) (bk 4 A2 K2 0) (bk 4 A2 K2 0) (bk 4 A1 K1 0) _ (by show 4 ≤ 9223372036854775807; decide) (by show 4 ≤ 9223372036854775807; decide) rfl rfl rfl rfl nP nP (HX1.out.below by1) (HX2.out.below by1) (HX2.out.below by1) (HX1.out.below by1)).mono ?_; rintro e y2 ⟨rfl, hb⟩; have by2 : Below Z.heap.size Z y2 := bl_step by1 hb; clear hb))
    all_goals (refine kmeet_of (by assumption) ?_; go_meet; exact ⟨rfl, by2⟩)
  case rest =>
    obtain ⟨rfl, Bc⟩ := hcut
    have cL := (kpB HCL.out HR3.out Bc).1
    have x1 := HX1.out.below Bc
    have x2 := HX2.out.below Bc
    have BC := bl_step HBZ.out Bc
    clear HCL HR3 HX1 HX2 HBZ Bc
    go_wp2_with fail
    refine gen_calls (fun X => R8 X (some ⟨wc.heap.size, 0, none⟩) [1, 1, 1, 1] ∧ (X.cell? ⟨gL, 0, none⟩ = some (.int .i64 256) ∧ X.cell? ⟨gL, 1, none⟩ = some (.slice (some ⟨A1, 0, none⟩) 4 K1) ∧ X.cell? ⟨gL, 2, none⟩ = some (.int .i64 256) ∧ X.cell? ⟨gL, 3, none⟩ = some (.slice (some ⟨A2, 0, none⟩) 4 K2)) ∧ Wr X (some ⟨A1, 0, none⟩) 4 nP ∧ Wr X (some ⟨A2, 0, none⟩) 4 nP ∧ Below w.heap.size w X)
      ⟨b_r8 wc _, ⟨keepc (bl_alloc (Below.refl _ _) _) cL.1, keepc (bl_alloc (Below.refl _ _) _) cL.2.1, keepc (bl_alloc (Below.refl _ _) _) cL.2.2.1, keepc (bl_alloc (Below.refl _ _) _) cL.2.2.2⟩, x1.below (bl_alloc (Below.refl _ _) _), x2.below (bl_alloc (Below.refl _ _) _), bl_alloc BC _⟩ ?_
    clear cL x1 x2 BC
    rintro X ⟨r8, cL, x1, x2, BX⟩
    refine (b_spread wc.heap.size X r8).mono ?_
    rintro e w2 ⟨G1, G2, rfl, g1, g2, hb⟩
    have B2 := bl_step BX hb
    replace x1 := x1.below hb
    replace x2 := x2.below hb
    have cL' := And.intro (keepc hb cL.1) (And.intro (keepc hb cL.2.1) (And.intro (keepc hb cL.2.2.1) (keepc hb cL.2.2.2)))
    have y1 := Wr.row g1 (show nW < 2 ^ (64 * 4) by decide)
    have y2 := Wr.row g2 (show nW < 2 ^ (64 * 4) by decide)
    clear hb BX r8 cL g1 g2
    go_upto_region 6 with fail
    refine gen_world (fun V => V.rowIs w2.heap.size 46 4 (qf (bt 4 G1 0) (bt 4 G2 0)) ∧ (V.cell? ⟨gL, 0, none⟩ = some (.int .i64 256) ∧ V.cell? ⟨gL, 1, none⟩ = some (.slice (some ⟨A1, 0, none⟩) 4 K1) ∧ V.cell? ⟨gL, 2, none⟩ = some (.int .i64 256) ∧ V.cell? ⟨gL, 3, none⟩ = some (.slice (some ⟨A2, 0, none⟩) 4 K2)) ∧ Wr V (some ⟨G1, 0, none⟩) 4 nW ∧ Wr V (some ⟨G2, 0, none⟩) 4 nW ∧ Wr V (some ⟨A1, 0, none⟩) 4 nP ∧ Wr V (some ⟨A2, 0, none⟩) 4 nP ∧ Below w.heap.size w V)
      ⟨q_new w2 (bt 4 G1 0) (bt 4 G2 0) _, ⟨keepc (bl_alloc (Below.refl _ _) _) cL'.1, keepc (bl_alloc (Below.refl _ _) _) cL'.2.1, keepc (bl_alloc (Below.refl _ _) _) cL'.2.2.1, keepc (bl_alloc (Below.refl _ _) _) cL'.2.2.2⟩, y1.below (bl_alloc (Below.refl _ _) _), y2.below (bl_alloc (Below.refl _ _) _), x1.below (bl_alloc (Below.refl _ _) _), x2.below (bl_alloc (Below.refl _ _) _), bl_alloc B2 _⟩ ?_
    clear cL' y1 y2 x1 x2 B2
    rintro V ⟨r5, cV, y1, y2, x1, x2, BV⟩
    have HR5 := hid1 r5
    have HCV := hid1 cV
    have HL := hid1 (fun (Y : World) (hY : Below V.heap.size V Y) => b_lost G1 G2 A1 K1 A2 K2 Y (y1.below hY) (y2.below hY) (x1.below hY) (x2.below hY))
    have HBV := hid1 BV
    clear r5 cV y1 y2 x1 x2 BV
    go_cut [6, 7] from 61 to 68 (fun s6 s7 wx => s6 = .int .i64 3 ∧ s7 = .int .i64 0 ∧ Below V.heap.size V wx)
    case first =>
      go_region_held3 (fun Y => (Y.cell? ⟨gL, 0, none⟩ = some (.int .i64 256) ∧ Y.cell? ⟨gL, 1, none⟩ = some (.slice (some ⟨A1, 0, none⟩) 4 K1) ∧ Y.cell? ⟨gL, 2, none⟩ = some (.int .i64 256) ∧ Y.cell? ⟨gL, 3, none⟩ = some (.slice (some ⟨A2, 0, none⟩) 4 K2)) ∧ (Y.cell? ⟨w2.heap.size, 0, none⟩ = some (.int .i64 256) ∧ Y.cell? ⟨w2.heap.size, 1, none⟩ = some (.slice (some ⟨G1, 0, none⟩) 4 4) ∧ Y.cell? ⟨w2.heap.size, 2, none⟩ = some (.int .i64 256) ∧ Y.cell? ⟨w2.heap.size, 3, none⟩ = some (.slice (some ⟨G2, 0, none⟩) 4 4)))
        (((try dsimp only); (with_reducible refine kpC (Z := V) HCV.out HR5.out ?_); repeat (first | (with_reducible exact Below.refl _ _) | (with_reducible assumption) | (with_reducible refine Below.drew ?_))))
        ((go_at_call 19; refine (HL.out _ (by repeat (first | (with_reducible exact Below.refl _ _) | (with_reducible refine Below.drew ?_)))).mono ?_; rintro e y1 ⟨rfl, hb⟩; have by1 : Below V.heap.size V y1 := bl_step (Below.refl _ _).drew hb; clear hb))
      all_goals (refine kmeet_of (by assumption) ?_; go_meet; exact ⟨rfl, rfl, by1⟩)
    case rest =>
      obtain ⟨rfl, rfl, Bc⟩ := hcut
      have BC := bl_step HBV.out Bc
      clear HR5 HCV HL HBV Bc
      go_wp2_with fail
      go_ret
      exact ⟨rfl, BC⟩
end Go.Proofs.Ytlilldgconlchaa
/- heddlelaw13: within. -/
namespace Go.Proofs.Ytlilldgconlchaa
open Go.RowKit Go.Shelf

/-- A number turned into lo to hi. -/
def wi (n lo hi : Int) : Int := lo + n % (hi - lo + 1)
theorem wi_bd {n lo hi : Int} (h : lo ≤ hi) : lo ≤ wi n lo hi ∧ wi n lo hi ≤ hi := by
  unfold wi
  have h1 := Int.emod_nonneg n (show hi - lo + 1 ≠ 0 by omega)
  have h2 := Int.emod_lt_of_pos n (show 0 < hi - lo + 1 by omega)
  omega
theorem withinE_any (n lo hi : Int) (h : lo ≤ hi) (h1 : -1000 ≤ lo) (h2 : hi ≤ 1000) (w : World) :
    Calls Try.prog 32 #[.int .i64 n, .int .i64 lo, .int .i64 hi] w fun e w' => e = .returned (.int .i64 (wi n lo hi)) ∧ w' = w := by
  obtain ⟨m, em⟩ : ∃ m, m = hi - lo + 1 := ⟨_, rfl⟩
  have w1 : IntKind.i64.wrap (hi - lo) = hi - lo := by rw [IntKind.wrap_i64]; omega
  have w2 : IntKind.i64.wrap (hi - lo + 1) = m := by rw [IntKind.wrap_i64]; omega
  have hm0 : ¬ m = 0 := by omega
  have b1 := Int.emod_nonneg n (show m ≠ 0 by omega)
  have b2 := Int.emod_lt_of_pos n (show 0 < m by omega)
  have ew : wi n lo hi = lo + n % m := by unfold wi; rw [em]
  obtain ⟨r, er⟩ : ∃ r, n.tmod m = r := ⟨_, rfl⟩
  have hr : -m < r ∧ r < m ∧ (0 ≤ r ∧ r = n % m ∨ r < 0 ∧ r + m = n % m) := by
    have k1 : (n.tmod m).natAbs < m.natAbs := by
      have := Int.natAbs_tmod n m
      rw [this]
      exact Nat.mod_lt _ (by omega)
    have k2 := Int.emod_add_mul_ediv n m
    have k3 := Int.tmod_add_mul_tdiv n m
    rw [er] at k1 k3
    refine ⟨by omega, by omega, ?_⟩
    have k4 : (r - n % m) = m * (n / m - n.tdiv m) := by rw [Int.mul_sub]; omega
    obtain ⟨d, ed⟩ : ∃ d, n / m - n.tdiv m = d := ⟨_, rfl⟩
    rw [ed] at k4
    by_cases c0 : d = 0
    · rw [c0, Int.mul_zero] at k4; left; omega
    · by_cases c1 : d = -1
      · rw [c1] at k4; right; omega
      · exfalso
        by_cases c2 : 0 < d
        · have : m * 1 ≤ m * d := Int.mul_le_mul_of_nonneg_left (by omega) (by omega)
          omega
        · have : m * d ≤ m * (-2) := Int.mul_le_mul_of_nonneg_left (by omega) (by omega)
          omega
  have w3 : IntKind.i64.wrap r = r := by rw [IntKind.wrap_i64]; omega
  have w4 : IntKind.i64.wrap (r + m) = r + m := by rw [IntKind.wrap_i64]; omega
  rw [ew]
  have hmb : m ≤ 2001 := by omega
  clear em ew
  by_cases hr0 : r < 0
  · have e1 : r + m = n % m := by omega
    have w5 : IntKind.i64.wrap (lo + (r + m)) = lo + n % m := by rw [IntKind.wrap_i64]; omega
    clear hr b1 b2 e1
    go_enter Try.func32, Try.ntmps32
    go_wp2_with fail
    go_ret
    exact ⟨rfl, rfl⟩
  · have e1 : r = n % m := by omega
    have w5 : IntKind.i64.wrap (lo + r) = lo + n % m := by rw [IntKind.wrap_i64]; omega
    clear hr b1 b2 e1
    go_enter Try.func32, Try.ntmps32
    go_wp2_with fail
    go_ret
    exact ⟨rfl, rfl⟩
end Go.Proofs.Ytlilldgconlchaa
/- The document's own answers of dot: Bit, May, Check. -/
namespace Go.Proofs.Ytlilldgconlchaa
open Go.RowKit

theorem half_u64 {x j : Nat} : ((x / 2 ^ j : Nat) : Int) / 2 = ((x / 2 ^ (j + 1) : Nat) : Int) := by
  rw [Nat.pow_succ, ← Nat.div_div_eq_div_mul]
  omega
set_option maxHeartbeats 800000 in
set_option maxRecDepth 100000 in
theorem tbit_any (b : Bt) (i : Nat) (w : World) (hi : i < 64 * b.m) (hm : b.m ≤ 262144) (h : Rw w b) :
    Calls Try.prog 57 #[b.v, .int .i64 i] w fun e w' => e = .returned (.bool (b.N.testBit i)) ∧ Below w.heap.size w w' := by
  obtain ⟨bn, ba, bm, bc, BN⟩ := b
  dsimp only at *
  obtain ⟨q, r, hr, rfl⟩ : ∃ q r, r < 64 ∧ i = 64 * q + r := ⟨i / 64, i % 64, by omega, by omega⟩
  have q1 : q < bm := by omega
  obtain ⟨g, o, rfl, c⟩ := h.2.2 q q1
  unfold wf at c
  dsimp only at c
  have e1 : ((64 * q + r : Nat) : Int) / 64 = q := by omega
  have e2 : ((64 * q + r : Nat) : Int).tmod 64 = r := by rw [Int.tmod_eq_emod_of_nonneg (by omega)]; omega
  have e2' : ((64 * q + r : Nat) : Int) % 64 = r := by omega
  have e3 : IntKind.i64.wrap (q : Int) = q := by rw [IntKind.wrap_i64]; omega
  have iq0 : (0 : Int) ≤ (q : Int) := by omega
  have iq1 : (q : Int) < (bm : Int) := by omega
  have ir0 : (0 : Int) ≤ (r : Int) := by omega
  have ir1 : (r : Int) ≤ 63 := by omega
  have ip0 : (0 : Int) ≤ ((64 * q + r : Nat) : Int) := by omega
  have HB := hid1 (bit_mod BN q r hr)
  have lg := lt_of_cell c
  have hx := wd_lt BN q
  clear h hi
  generalize hP : 64 * q + r = P at *
  clear hP
  generalize wd BN q = x at *
  go_enter Try.func57, Try.ntmps57
  go_wp2_with fail
  go_loop [5, 6] (fun v j => ∃ k : Nat, k ≤ r ∧ j = .int .i64 k ∧ v = .int .u64 ((x / 2 ^ k : Nat) : Int)) (fun _ j => r - (intOf j).toNat)
  case atStart => exact ⟨0, Nat.zero_le _, rfl, by simp⟩
  case round =>
    obtain ⟨k, hk, rfl, rfl⟩ := hrel
    have hy : x / 2 ^ k < 18446744073709551616 := Nat.lt_of_le_of_lt (Nat.div_le_self _ _) hx
    by_cases hlt : k < r
    · have ik : (k : Int) < (r : Int) := by omega
      have HH := hid1 (half_u64 (x := x) (j := k))
      generalize hq : x / 2 ^ k = y at *
      clear hq
      go_wp2_with fail
      exact ⟨⟨k + 1, by omega, by go_num, by rw [← HH.out]⟩, by simp [intOf]; omega⟩
    · have hkr : k = r := by omega
      subst hkr
      have hb := HB.out
      clear HB
      generalize x / 2 ^ k = y at *
      cases hbt : BN.testBit P
      · rw [hbt] at hb
        have y1 : (y : Int) % 2 = 0 := by simp at hb; omega
        have y2 : (y : Int).tmod 2 = 0 := by rw [Int.tmod_eq_emod_of_nonneg (by omega)]; exact y1
        clear hb
        go_wp2_with fail
        go_ret
        exact ⟨rfl, bl_alloc (Below.refl _ _) _⟩
      · rw [hbt] at hb
        have y1 : (y : Int) % 2 = 1 := by simp at hb; omega
        have y2 : (y : Int).tmod 2 = 1 := by rw [Int.tmod_eq_emod_of_nonneg (by omega)]; exact y1
        clear hb
        go_wp2_with fail
        go_ret
        exact ⟨rfl, bl_alloc (Below.refl _ _) _⟩

/-- May a row of bits be? -/
def myB (b : Bt) : Bool := decide (chk b.n b.m b.N = 0)
theorem myB_zero {b : Bt} (h : chk b.n b.m b.N = 0) : myB b = true := by unfold myB; rw [decide_eq_true h]
theorem myB_not {b : Bt} (h : chk b.n b.m b.N ≠ 0) : myB b = false := by unfold myB; rw [decide_eq_false h]
set_option maxHeartbeats 1600000 in
set_option maxRecDepth 100000 in
theorem may_any (b : Bt) (w : World) (h : Rw w b) :
    Calls Try.prog 83 #[b.v] w fun e w' => e = .returned (.bool (myB b)) ∧ Below w.heap.size w w' := by
  have HR := hid1 h
  have hmx := h.2.1
  clear h
  by_cases h1 : b.n < 0
  · rw [myB_not (by unfold chk; rw [if_pos h1]; decide)]
    go_enter Try.func83, Try.ntmps83
    go_wp2
    go_ret
    exact ⟨rfl, bl_alloc (Below.refl _ _) _⟩
  by_cases h2 : 16777216 < b.n
  · rw [myB_not (by unfold chk; rw [if_neg h1, if_pos h2]; decide)]
    go_enter Try.func83, Try.ntmps83
    go_wp2
    go_ret
    exact ⟨rfl, bl_alloc (Below.refl _ _) _⟩
  obtain ⟨bn, ba, m, bc, N⟩ := b
  dsimp only at *
  obtain ⟨n, rfl⟩ := Int.eq_ofNat_of_zero_le (Int.not_lt.1 h1)
  have h3 : n ≤ 16777216 := by omega
  have hb := nw_bd h3
  have en : ((n : Int) + 63) / 64 = (nw n : Nat) := by unfold nw; omega
  have in0 : (0 : Int) ≤ (n : Int) := by omega
  have in1 : (n : Int) ≤ 16777216 := by omega
  clear h1 h2
  by_cases h4 : m = nw n
  · have hle := nw_le n
    have e0 : chk n m N = if N < 2 ^ n then 0 else 20 := by
      unfold chk
      rw [if_neg (by omega), if_neg (by omega), Int.toNat_natCast, if_neg (by simp [h4])]
    rw [← h4] at en hle hb
    have HN := hid1 HR.out.1
    have HE := hid1 e0
    have im0 : (0 : Int) ≤ (m : Int) := by omega
    have im1 : (m : Int) ≤ 262144 := by omega
    obtain ⟨mb, emb⟩ : ∃ x, myB ⟨n, ba, m, bc, N⟩ = x := ⟨_, rfl⟩
    rw [emb]
    have HMB := hid1 emb
    clear h4 e0 emb
    go_enter Try.func83, Try.ntmps83
    go_wp2_with fail
    clear en
    go_loopw [3] (fun i wr => ∃ k : Nat, n ≤ k ∧ k ≤ 64 * m ∧ i = .int .i64 k ∧ (∀ j, n ≤ j → j < k → N.testBit j = false) ∧ wr.rowIs w.heap.size 41 2 (sf n ba m bc) ∧ Below w.heap.size w wr)
      (fun i _ => 64 * m - (intOf i).toNat)
    case atStart => exact ⟨n, Nat.le_refl _, hle, rfl, fun j h5 h6 => absurd h5 (by omega), row_new _ _ _ _ _ _, bl_alloc (Below.refl _ _) _⟩
    case round =>
      obtain ⟨k, hk1, hk2, rfl, hk3, r1, hnx⟩ := hrel
      have c0 := sf_len r1
      have c1 := sf_ws r1
      have ik0 : (0 : Int) ≤ (k : Int) := by omega
      have em : IntKind.i64.wrap (64 * (m : Int)) = ((64 * m : Nat) : Int) := by rw [IntKind.wrap_i64]; omega
      by_cases hlt : k < 64 * m
      · have ik : (k : Int) < ((64 * m : Nat) : Int) := by omega
        have ik' : (k : Int) < 64 * (m : Int) := by omega
        have HK := hid1 hk3
        have H1 := hid1 r1
        have ib : (k : Int) ≤ 16777216 := by omega
        clear hk3 r1
        go_wp2_with fail
        refine (tbit_any ⟨n, ba, m, bc, N⟩ k wr hlt (by show m ≤ _; omega) (HR.out.below hnx)).mono ?_
        rintro e w1 ⟨rfl, hb1⟩
        dsimp only
        cases hbit : N.testBit k
        · go_wp2_with fail
          exact ⟨⟨k + 1, by omega, by omega, by go_num, fun j h5 h6 => by
            by_cases e : j = k
            · rw [e]; exact hbit
            · exact HK.out j h5 (by omega), keepr hb1 H1.out, bl_step hnx hb1⟩, by simp [intOf]; omega⟩
        · have e5 : mb = false := HMB.out.symm.trans (myB_not (by show chk n m N ≠ 0; rw [HE.out, if_neg (not_lt_of_bit hk1 hbit)]; decide))
          have E5 := hid1 e5
          clear e5
          go_wp2_with fail
          go_ret
          exact ⟨by rw [E5.out]; rfl, bl_step hnx hb1⟩
      · have ik : ¬ (k : Int) < ((64 * m : Nat) : Int) := by omega
        have ik' : ¬ (k : Int) < 64 * (m : Int) := by omega
        have e5 : mb = true := HMB.out.symm.trans (myB_zero (by show chk n m N = 0; rw [HE.out, if_pos (lt_of_none HN.out (fun i h5 h6 => hk3 i h5 (by omega)))]))
        have E5 := hid1 e5
        clear r1 hk3 e5
        go_wp2_with fail
        go_ret
        exact ⟨by rw [E5.out]; rfl, hnx⟩
  · have im : ¬ (m : Int) = (nw n : Nat) := by omega
    have imb : ((m : Int) != (nw n : Nat)) = true := by simp; omega
    have imc : ((m : Int) == (nw n : Nat)) = false := by simp; omega
    rw [myB_not (by show chk n m N ≠ 0; rw [show chk n m N = 20 by simp [chk, h4]; omega]; decide)]
    go_enter Try.func83, Try.ntmps83
    go_wp2
    go_ret
    exact ⟨rfl, bl_alloc (Below.refl _ _) _⟩
theorem sub_word (A B k : Nat) : (wd A k &&& wd B k = wd A k) ↔ wd A k &&& (18446744073709551615 - wd B k) = 0 := by
  have hc : ∀ i, i < 64 → (18446744073709551615 - wd B k).testBit i = !((wd B k).testBit i) := fun i hi => by
    have hb := wd_lt B k
    have e : 18446744073709551615 - wd B k = 2 ^ 64 - (wd B k + 1) := by rw [← two64]; omega
    rw [e, Nat.testBit_two_pow_sub_succ (by rw [← two64]; exact hb)]
    simp [hi]
  constructor
  · intro h
    refine wd_ext (and_lt64 (wd_lt _ _)) (by decide) fun i hi => ?_
    have h1 := congrArg (fun x => Nat.testBit x i) h
    simp only [Nat.testBit_and] at h1
    rw [Nat.testBit_and, hc i hi]
    cases h2 : (wd A k).testBit i <;> cases h3 : (wd B k).testBit i <;> simp [h2, h3] at h1 ⊢
  · intro h
    refine wd_ext (and_lt64 (wd_lt _ _)) (wd_lt _ _) fun i hi => ?_
    have h1 := congrArg (fun x => Nat.testBit x i) h
    simp only [Nat.testBit_and, Nat.zero_testBit] at h1
    rw [hc i hi] at h1
    rw [Nat.testBit_and]
    cases h2 : (wd A k).testBit i <;> cases h3 : (wd B k).testBit i <;> simp [h2, h3] at h1 ⊢
theorem dck_bad {A B : Bt} (h : myB A = false ∨ myB B = false ∨ A.n ≠ B.n) : dck A B = 20 := by
  unfold dck
  rw [if_pos]
  rcases h with h | h | h
  · left
    intro h2
    rw [myB_zero h2] at h
    cases h
  · right
    unfold ftB
    rw [decide_eq_false]
    rintro ⟨h2, _⟩
    rw [myB_zero h2] at h
    cases h
  · right
    unfold ftB
    rw [decide_eq_false]
    rintro ⟨_, h2⟩
    exact h h2.symm
theorem dck_good {A B : Bt} (h1 : myB A = true) (h2 : myB B = true) (h3 : A.n = B.n) : (dck A B = if A.N &&& B.N = A.N then 0 else 100) ∧ ∃ n : Nat, A.n = n ∧ n ≤ 16777216 ∧ A.m = nw n ∧ B.m = nw n ∧ A.N < 2 ^ n := by
  have e1 : chk A.n A.m A.N = 0 := of_decide_eq_true h1
  have e2 : chk B.n B.m B.N = 0 := of_decide_eq_true h2
  obtain ⟨n, f1, f2, f3, f4⟩ := chk_zero e1
  obtain ⟨n', k1, k2, k3, k4⟩ := chk_zero e2
  have : n' = n := by omega
  subst this
  refine ⟨?_, n', f1, f2, f3, k3, f4⟩
  unfold dck
  rw [if_neg]
  rintro (h | h)
  · exact h e1
  · unfold ftB at h
    have := of_decide_eq_false h
    exact this ⟨e2, h3.symm⟩
set_option maxHeartbeats 1600000 in
set_option maxRecDepth 100000 in
theorem rcheck_any (A B : Bt) (w : World) (hA : Rw w A) (hB : Rw w B) :
    Calls Try.prog 55 #[rwv A B] w fun e w' => e = .returned (.int .i64 (dck A B)) ∧ Below w.heap.size w w' := by
  have HA := hid1 hA
  have HB := hid1 hB
  clear hA hB
  obtain ⟨dv, edv⟩ : ∃ x, dck A B = x := ⟨_, rfl⟩
  rw [edv]
  have HD := hid1 edv
  clear edv
  go_enter Try.func55, Try.ntmps55
  go_wp2_with fail
  refine gen_calls (fun W => Below w.heap.size w W ∧ W.rowIs w.heap.size 46 4 (qf A B)) ⟨bl_alloc (Below.refl _ _) _, q_new w A B _⟩ ?_
  rintro W ⟨B0, r1⟩
  refine (may_any A W (HA.out.below B0)).mono ?_
  rintro e w1 ⟨rfl, hb1⟩
  replace r1 := keepr hb1 r1
  replace B0 := bl_step B0 hb1
  have c2 := q2 r1
  have c3 := q3 r1
  clear hb1
  go_wp2_with fail
  refine (may_any B w1 (HB.out.below B0)).mono ?_
  rintro e w2 ⟨rfl, hb2⟩
  replace r1 := keepr hb2 r1
  replace B0 := bl_step B0 hb2
  clear hb2 c2 c3
  have c0 := q0 r1
  have c2 := q2 r1
  have R1 := hid1 r1
  clear r1
  by_cases hgood : myB A = true ∧ myB B = true ∧ A.n = B.n
  · obtain ⟨g1, g2, g3⟩ := hgood
    obtain ⟨hdk, n, e1, e2, e3, e4, e5⟩ := dck_good g1 g2 g3
    have HS : Hid (A.N &&& B.N = A.N ↔ ∀ k, k < nw n → wd A.N k &&& (18446744073709551615 - wd B.N k) = 0) := sub_words (lt_nw e5)
    rw [HD.out] at hdk
    have HK := hid1 hdk
    rw [g1, g2]
    rw [← g3] at c2
    have M1 := hid1 e3
    have M2 := hid1 e4
    have hbd := nw_bd e2
    clear hdk e3 e4 g1 g2 g3 e1
    have c1 := q1 R1.out
    have c3 := q3 R1.out
    rw [M1.out] at c1
    rw [M2.out] at c3
    go_wp2_with fail
    clear c0 c2 c1 c3
    go_loopw [5] (fun i wr => ∃ k : Nat, k ≤ nw n ∧ i = .int .i64 k ∧ (∀ j, j < k → wd A.N j &&& (18446744073709551615 - wd B.N j) = 0) ∧ wr.rowIs w.heap.size 46 4 (qf A B) ∧ Below w.heap.size w wr) (fun i _ => nw n - (intOf i).toNat)
    case atStart => exact ⟨0, Nat.zero_le _, rfl, fun j hj => absurd hj (by omega), R1.out, B0⟩
    case round =>
      clear B0 R1
      obtain ⟨k, hk, rfl, hall, r1, B0⟩ := hrel
      have HL := hid1 hall
      clear hall
      have c1 := q1 r1
      have c3 := q3 r1
      rw [M1.out] at c1
      rw [M2.out] at c3
      have R1 := hid1 r1
      clear r1
      by_cases hlt : k < nw n
      · obtain ⟨g1, o1, ea1, d1⟩ := (HA.out.below B0).2.2 k (by rw [M1.out]; exact hlt)
        obtain ⟨g2, o2, ea2, d2⟩ := (HB.out.below B0).2.2 k (by rw [M2.out]; exact hlt)
        rw [ea1] at c1
        rw [ea2] at c3
        unfold wf at d1 d2
        have ik : (k : Int) < (nw n : Nat) := by omega
        have ik0 : (0 : Int) ≤ (k : Int) := by omega
        have hu := wd_lt A.N k
        have hv := wd_lt B.N k
        have HE := hid1 (and_u64 _ _ hu hv)
        have HSW := hid1 (sub_word A.N B.N k)
        clear ea1 ea2
        by_cases hq : wd A.N k &&& wd B.N k = wd A.N k
        · have e1 : bits .and .u64 (wd A.N k : Int) (wd B.N k : Int) = (wd A.N k : Int) := by rw [HE.out, hq]
          have HQ := hid1 (HSW.out.1 hq)
          clear hq HE HSW
          go_wp2_with fail
          go_quiet (fail)
          go_wp2_with fail
          exact ⟨⟨k + 1, by omega, by go_num, fun j hj => by
            by_cases e : j = k
            · subst e; exact HQ.out
            · exact HL.out j (by omega), row_drewN R1.out _, bl_drewN B0 _⟩, by simp [intOf]; omega⟩
        · have e1 : (bits .and .u64 (wd A.N k : Int) (wd B.N k : Int) != (wd A.N k : Int)) = true := by rw [HE.out]; simp; omega
          have e2 : ¬ A.N &&& B.N = A.N := fun h => hq (HSW.out.2 (HS.out.1 h k hlt))
          have HQ : Hid (dv = 100) := hid1 (HK.out.trans (if_neg e2))
          clear hq e2 HE HSW HS HK
          go_wp2_with fail
          go_quiet (fail)
          go_wp2_with fail
          go_ret
          exact ⟨ret_int HQ.out.symm, bl_drewN B0 _⟩
      · have hkN : k = nw n := by omega
        have e2 : A.N &&& B.N = A.N := HS.out.2 (hkN ▸ HL.out)
        have HQ : Hid (dv = 0) := hid1 (HK.out.trans (if_pos e2))
        clear e2 HS HK
        go_wp2_with fail
        go_ret
        exact ⟨ret_int HQ.out.symm, B0⟩
  · have h20 : Hid (dv = 20) := by
      refine HD.out.symm.trans (dck_bad ?_)
      cases ha : myB A
      · exact .inl rfl
      · cases hb : myB B
        · exact .inr (.inl rfl)
        · exact .inr (.inr fun h => hgood ⟨ha, hb, h⟩)
    cases ha : myB A
    · go_wp2_with fail
      go_ret
      exact ⟨ret_int h20.out.symm, B0⟩
    · cases hb : myB B
      · go_wp2_with fail
        go_ret
        exact ⟨ret_int h20.out.symm, B0⟩
      · have hne : ¬ A.n = B.n := fun h => hgood ⟨ha, hb, h⟩
        clear hgood
        go_wp2_with fail
        go_ret
        exact ⟨ret_int h20.out.symm, B0⟩
end Go.Proofs.Ytlilldgconlchaa
/- The document's Weights and sum. -/
namespace Go.Proofs.Ytlilldgconlchaa
open Go.RowKit

theorem info_i64 : (Try.prog.info? 2).map (fun i => (i.zero, i.size, i.bytes)) = some (some (.int .i64 0), 1, 8) := by kernel_rfl
theorem und_i64s : Try.prog.underlying 111 = some (.slice 2) := by kernel_rfl
/-- The first k numbers of f, as cells. -/
def fl (f : Nat → Int) (k : Nat) : List Value := (List.range k).map fun i => Value.int .i64 (f i)
theorem fl_len (f : Nat → Int) (k : Nat) : (fl f k).length = k := by simp [fl]
theorem fl_snoc (f : Nat → Int) (k : Nat) : fl f (k + 1) = fl f k ++ [.int .i64 (f k)] := by simp [fl, List.range_succ]
theorem fl_at {f : Nat → Int} {k j : Nat} (h : j < k) : (fl f k)[j]? = some (.int .i64 (f j)) := by simp [fl, h]
/-- The slice reads as these numbers. -/
def R64 (w : World) (ao : Option Addr) (f : Nat → Int) (n : Nat) : Prop := ∀ k, k < n → ∃ g o, ao = some ⟨g, o, none⟩ ∧ w.cell? ⟨g, o + k, none⟩ = some (.int .i64 (f k))
theorem R64.below {w w' : World} {ao : Option Addr} {f : Nat → Int} {n : Nat} (h : R64 w ao f n) (hb : Below w.heap.size w w') : R64 w' ao f n :=
  fun k hk => by obtain ⟨g, o, e, c⟩ := h k hk; exact ⟨g, o, e, keepc hb c⟩
theorem r64_own {w : World} {base n : Nat} {v : Value} {f : Nat → Int} (h : w.ownsRow base 2 1 v n (fl f n)) : ∃ ao cap, v = .slice ao n cap ∧ R64 w ao f n := by
  rcases Nat.eq_zero_or_pos n with h0 | h0
  · rcases h.2 with ⟨h1, _⟩ | ⟨g, cap, cur, hv, _, _, h4, h5, _⟩
    · exact ⟨none, 0, by rw [h0]; exact h1, fun k hk => absurd hk (by omega)⟩
    · exact ⟨_, cap, hv, fun k hk => absurd hk (by omega)⟩
  · obtain ⟨g, cap, c, hv, _, h4, h5, hr, hf⟩ := own_row h h0
    refine ⟨_, cap, hv, fun k hk => ⟨g, 0, rfl, ?_⟩⟩
    rw [Nat.zero_add]
    refine (hr.cell (by omega)).trans ?_
    have := hf k hk
    rw [fl_at hk] at this
    exact congrArg some (Option.some.inj this).symm
theorem app64 {ops : Array Oper} {rest : List Oper} {o : Oper} {a : Act} {Q : Exit → Act → World → Prop} {w : World} (hgd : o.guard = none) (s x : Operand)
    (ho : o.op = .call { callee := .builtin .append, args := #[s, x], argTypes := #[111, 111] }) (base : Nat) (v : Value) (f : Nat → Int) (n : Nat) (hs : a.eval s = v) (hown : w.ownsRow base 2 1 v n (fl f n))
    (g : Nat) (y : Int) (cb : Nat) (hx : a.eval x = .slice (some ⟨g, 0, none⟩) 1 cb) (hr : w.cell? ⟨g, 0, none⟩ = some (.int .i64 y)) (hM : n ≤ 16777216) (hb : base ≤ w.heap.size) (hy : y = f n)
    (h : ∀ v' w', w'.ownsRow base 2 1 v' (n + 1) (fl f (n + 1)) → w.grownBy w' v.ownBlock → wpList Try.prog ops Q rest (a.put o.dst v') w') : wpList Try.prog ops Q (o :: rest) a w := by
  obtain ⟨i0, hi, hz0, hz1, hz2⟩ := info_parts info_i64
  refine wpList_append_own w hgd s x _ ho base 2 i0 (.int .i64 0) 1 8 und_i64s hi hz0 hz1 hz2 rfl (by decide) v n (fl f n) hs hown ⟨g, 0, none⟩ 1 cb [.int .i64 y] hx rfl
    (fun j u hu => ?_) (fun u hu => by simp at hu; subst hu; rfl) (by unfold maxLen; omega) (by omega) hb ?_
  · rcases j with _ | j
    · simp at hu; subst hu; exact hr
    · simp at hu
  · intro v' w' h1 h2 _
    subst hy
    exact h v' w' (by rw [fl_snoc]; exact h1) h2

theorem own_keep {w w' : World} {base : Nat} {e : TypeId} {size : Nat} {v : Value} {n : Nat} {xs : List Value} (h : w.ownsRow base e size v n xs) (hb : Below w.heap.size w w') : w'.ownsRow base e size v n xs :=
  h.kept (row := none) ⟨hb.os, hb.tape, hb.output, hb.size, fun k hk _ => hb.block k hk⟩ (by cases v.ownBlock <;> simp)
/-- Behind a new cell and an append to what lies from base on: what lies below base is as it was. -/
theorem grown_below {base : Nat} {e : TypeId} {size n : Nat} {v : Value} {xs : List Value} {w w' : World} {o : Obj} (hown : w.ownsRow base e size v n xs) (hb : base ≤ w.heap.size) (hg : (w.alloc o).grownBy w' v.ownBlock) : Below base w w' :=
  (((Below.refl base w).alloc hb o)).grown hg (by simp; omega) (fun q hq => (hown.lt q hq).1)
set_option maxHeartbeats 1600000 in
set_option maxRecDepth 100000 in
theorem weights_any (A B : Bt) (n : Nat) (w : World) (hA : Rw w A) (hB : Rw w B) (h1 : n ≤ 16777216) (hn : B.n = n) (ha : A.m = nw n) (hb : B.m = nw n) :
    Calls Try.prog 56 #[rwv A B] w fun e w' => ∃ ao cap, e = .returned (.slice ao n cap) ∧ R64 w' ao (wt A.N B.N) n ∧ Below w.heap.size w w' := by
  have HA := hid1 hA
  have HB := hid1 hB
  have M1 := hid1 ha
  have M2 := hid1 hb
  have HN := hid1 hn
  have hbd := nw_bd h1
  have hle := nw_le n
  clear hA hB ha hb hn
  have in1 : (n : Int) ≤ 16777216 := by omega
  go_enter Try.func56, Try.ntmps56
  go_wp2_with fail
  go_loopw [3, 4] (fun v i wr => ∃ (u : Value) (k : Nat), k ≤ n ∧ v = u ∧ i = .int .i64 k ∧ wr.ownsRow (w.heap.size + 1) 2 1 u k (fl (wt A.N B.N) k) ∧ wr.rowIs w.heap.size 46 4 (qf A B) ∧ Below w.heap.size w wr) (fun _ i _ => n - (intOf i).toNat)
  case atStart => exact ⟨_, 0, Nat.zero_le _, rfl, rfl, World.ownsRow_nil _ _ _ _, q_new w A B _, bl_alloc (Below.refl _ _) _⟩
  case round =>
    obtain ⟨v, k, hk, ev, rfl, hown, r1, B0⟩ := hrel
    replace ev := ev.symm
    subst ev
    have c0 := q0 r1
    have c1 := q1 r1
    have c2 := q2 r1
    have c3 := q3 r1
    rw [HN.out] at c2
    have R1 := hid1 r1
    have HO := hid1 hown
    have sz : w.heap.size + 1 ≤ wr.heap.size := by have := r1.lt; omega
    clear r1 hown
    by_cases hlt : k < n
    · have ik : (k : Int) < (n : Int) := by omega
      have ik0 : (0 : Int) ≤ (k : Int) := by omega
      have CB : Hid (∀ X, Below w.heap.size w X → Calls Try.prog 57 #[B.v, .int .i64 k] X fun e w' => e = .returned (.bool (B.N.testBit k)) ∧ Below X.heap.size X w') := fun X hX => tbit_any B k X (by rw [M2.out]; omega) (by rw [M2.out]; exact hbd) (HB.out.below hX)
      have CA : Hid (∀ X, Below w.heap.size w X → Calls Try.prog 57 #[A.v, .int .i64 k] X fun e w' => e = .returned (.bool (A.N.testBit k)) ∧ Below X.heap.size X w') := fun X hX => tbit_any A k X (by rw [M1.out]; omega) (by rw [M1.out]; exact hbd) (HA.out.below hX)
      unfold Bt.v at CB CA
      rw [HN.out] at CB
      have HWT : Hid (wt A.N B.N k = if B.N.testBit k then (if A.N.testBit k then 1 else -1) else 0) := rfl
      go_wp2_with fail
      refine (CB.out wr B0).mono ?_
      rintro e w1 ⟨rfl, hb1⟩
      replace B0 := bl_step B0 hb1
      replace R1 := hid1 (keepr hb1 R1.out)
      replace HO := hid1 (own_keep HO.out hb1)
      replace sz : w.heap.size + 1 ≤ w1.heap.size := by have := hb1.size; omega
      clear c0 c1 c2 c3 hb1
      have c0 := q0 R1.out
      have c1 := q1 R1.out
      go_wp2_with fail
      refine (CA.out w1 B0).mono ?_
      rintro e w2 ⟨rfl, hb2⟩
      replace B0 := bl_step B0 hb2
      replace R1 := hid1 (keepr hb2 R1.out)
      replace HO := hid1 (own_keep HO.out hb2)
      replace sz : w.heap.size + 1 ≤ w2.heap.size := by have := hb2.size; omega
      clear c0 c1 hb2 CA CB
      cases hbb : B.N.testBit k
      · rw [hbb] at HWT
        replace HWT : Hid (wt A.N B.N k = 0) := HWT.out.trans (by simp)
        cases hab : A.N.testBit k
        · go_wp2_with (at_builtin; refine app64 rfl _ _ rfl (w.heap.size + 1) v (wt A.N B.N) k (by go_simp) (HO.out.alloc _) w2.heap.size (0) 1 (by go_simp) (by simp [go_sem]) (by omega) (by simp; omega) HWT.out.symm ?_; intro v' w' hown hgrow)
          have BQ := grown_below HO.out sz hgrow
          exact ⟨⟨v', k + 1, by omega, rfl, by go_num, hown, R1.out.of_block (BQ.block _ (by omega)), B0.trans (BQ.mono (by omega))⟩, by simp [intOf]; omega⟩
        · go_wp2_with (at_builtin; refine app64 rfl _ _ rfl (w.heap.size + 1) v (wt A.N B.N) k (by go_simp) (HO.out.alloc _) w2.heap.size (0) 1 (by go_simp) (by simp [go_sem]) (by omega) (by simp; omega) HWT.out.symm ?_; intro v' w' hown hgrow)
          have BQ := grown_below HO.out sz hgrow
          exact ⟨⟨v', k + 1, by omega, rfl, by go_num, hown, R1.out.of_block (BQ.block _ (by omega)), B0.trans (BQ.mono (by omega))⟩, by simp [intOf]; omega⟩
      · cases hab : A.N.testBit k
        · rw [hbb, hab] at HWT
          replace HWT : Hid (wt A.N B.N k = -1) := HWT.out.trans (by simp)
          go_wp2_with (at_builtin; refine app64 rfl _ _ rfl (w.heap.size + 1) v (wt A.N B.N) k (by go_simp) (HO.out.alloc _) w2.heap.size (-1) 1 (by go_simp) (by simp [go_sem]) (by omega) (by simp; omega) HWT.out.symm ?_; intro v' w' hown hgrow)
          have BQ := grown_below HO.out sz hgrow
          exact ⟨⟨v', k + 1, by omega, rfl, by go_num, hown, R1.out.of_block (BQ.block _ (by omega)), B0.trans (BQ.mono (by omega))⟩, by simp [intOf]; omega⟩
        · rw [hbb, hab] at HWT
          replace HWT : Hid (wt A.N B.N k = 1) := HWT.out.trans (by simp)
          go_wp2_with (at_builtin; refine app64 rfl _ _ rfl (w.heap.size + 1) v (wt A.N B.N) k (by go_simp) (HO.out.alloc _) w2.heap.size (1) 1 (by go_simp) (by simp [go_sem]) (by omega) (by simp; omega) HWT.out.symm ?_; intro v' w' hown hgrow)
          have BQ := grown_below HO.out sz hgrow
          exact ⟨⟨v', k + 1, by omega, rfl, by go_num, hown, R1.out.of_block (BQ.block _ (by omega)), B0.trans (BQ.mono (by omega))⟩, by simp [intOf]; omega⟩
    · have hkN : k = n := by omega
      subst hkN
      obtain ⟨ao, cap, rfl, hr⟩ := r64_own HO.out
      have HR := hid1 hr
      clear HO hr
      go_wp2_with fail
      go_ret
      exact ⟨ao, cap, rfl, HR.out, B0⟩

end Go.Proofs.Ytlilldgconlchaa
/- The document's Set: truth values as a row of bits (as DR4, for a seat with cubes). -/
namespace Go.Proofs.Ytlilldgconlchaa
open Go.RowKit

theorem own_mono {w : World} {base base' : Nat} {e : TypeId} {size : Nat} {v : Value} {n : Nat} {xs : List Value} (h : w.ownsRow base e size v n xs) (hb : base' ≤ base) : w.ownsRow base' e size v n xs := by
  refine ⟨h.1, ?_⟩
  rcases h.2 with h2 | ⟨g, cap, cur, hv, hbase, h4⟩
  · exact .inl h2
  · exact .inr ⟨g, cap, cur, hv, by omega, h4⟩
theorem own_row_ne {w : World} {base : Nat} {e t : TypeId} {size b n k : Nat} {v : Value} {xs : List Value} {f : Nat → Value} (h : w.ownsRow base e size v n xs) (r : w.rowIs b t k f) (ht : e ≠ t) : v.ownBlock ≠ some b := by
  rcases h.2 with ⟨rfl, _⟩ | ⟨g, cap, cur, rfl, _, hg, _⟩
  · simp [Value.ownBlock]
  · intro e1
    simp [Value.ownBlock] at e1
    subst e1
    obtain ⟨c, hc, _⟩ := r
    rw [hg] at hc
    exact ht (by injection hc with hc; injection hc)
theorem row_grown {w w' : World} {base : Nat} {e t : TypeId} {size b n k : Nat} {v : Value} {xs : List Value} {f : Nat → Value} (r : w.rowIs b t k f) (hown : w.ownsRow base e size v n xs) (hg : w.grownBy w' v.ownBlock) (ht : e ≠ t) : w'.rowIs b t k f :=
  r.of_block (hg.block _ r.lt (fun e1 => own_row_ne hown r ht e1.symm))
/-- The slice reads as these truth values. -/
def RB (w : World) (ao : Option Addr) (f : Nat → Bool) (n : Nat) : Prop := ∀ k, k < n → ∃ g o, ao = some ⟨g, o, none⟩ ∧ w.cell? ⟨g, o + k, none⟩ = some (.bool (f k))
theorem RB.below {w w' : World} {ao : Option Addr} {f : Nat → Bool} {n : Nat} (h : RB w ao f n) (hb : Below w.heap.size w w') : RB w' ao f n :=
  fun k hk => by obtain ⟨g, o, e, c⟩ := h k hk; exact ⟨g, o, e, keepc hb c⟩
theorem half_step (x j : Nat) : x / 2 ^ j = 2 * (x / 2 ^ (j + 1)) + (x.testBit j).toNat := by
  rw [Nat.pow_succ, ← Nat.div_div_eq_div_mul]
  have h := Nat.testBit_eq_decide_div_mod_eq (x := x) (i := j)
  have e : (x.testBit j).toNat = x / 2 ^ j % 2 := by
    rw [h]
    rcases Nat.mod_two_eq_zero_or_one (x / 2 ^ j) with e | e <;> simp [e]
  rw [e]
  omega
theorem wl_snoc (N n : Nat) : wl N (n + 1) = wl N n ++ [wf N n] := by simp [wl, List.range_succ]
theorem app_word {ops : Array Oper} {rest : List Oper} {o : Oper} {a : Act} {Q : Exit → Act → World → Prop} {w : World} (hgd : o.guard = none) (s x : Operand)
    (ho : o.op = .call { callee := .builtin .append, args := #[s, x], argTypes := #[31, 31] }) (base : Nat) (v : Value) (N n : Nat) (hs : a.eval s = v) (hown : w.ownsRow base 48 1 v n (wl N n))
    (g : Nat) (y : Int) (cb : Nat) (hx : a.eval x = .slice (some ⟨g, 0, none⟩) 1 cb) (hr : w.cell? ⟨g, 0, none⟩ = some (.int .u64 y)) (hM : n ≤ 17592186044000) (hb : base ≤ w.heap.size) (hy : wf N n = .int .u64 y)
    (h : ∀ v' w', w'.ownsRow base 48 1 v' (n + 1) (wl N (n + 1)) → w.grownBy w' v.ownBlock → wpList Try.prog ops Q rest (a.put o.dst v') w') : wpList Try.prog ops Q (o :: rest) a w := by
  obtain ⟨i0, hi, hz0, hz1, hz2⟩ := info_parts info_u64
  refine wpList_append_own w hgd s x _ ho base 48 i0 (.int .u64 0) 1 8 und_u64s hi hz0 hz1 hz2 rfl (by decide) v n (wl N n) hs hown ⟨g, 0, none⟩ 1 cb [.int .u64 y] hx rfl
    (fun j u hu => ?_) (fun u hu => by simp at hu; subst hu; rfl) (by unfold maxLen; omega) (by omega) hb ?_
  · rcases j with _ | j
    · simp at hu; subst hu; exact hr
    · simp at hu
  · intro v' w' h1 h2 _
    exact h v' w' (by rw [wl_snoc, hy]; exact h1) h2
theorem own_form2 {w : World} {base : Nat} {e : TypeId} {size : Nat} {v : Value} {n : Nat} {xs : List Value} (h : w.ownsRow base e size v n xs) : ∃ ao cp, v = .slice ao n cp := by
  rcases h.2 with ⟨rfl, rfl⟩ | ⟨g, cap, cur, rfl, _⟩
  · exact ⟨none, 0, rfl⟩
  · exact ⟨_, cap, rfl⟩
theorem rw_own {w : World} {base n N cap : Nat} {ao : Option Addr} (h : w.ownsRow base 48 1 (.slice ao (nw n) cap) (nw n) (wl N (nw n))) (hN : N < 2 ^ n) (h1 : n ≤ 16777216) : Rw w ⟨n, ao, nw n, cap, N⟩ := by
  have hb := nw_bd h1
  refine ⟨lt_nw hN, by show nw n ≤ _; omega, fun k hk => ?_⟩
  have hk' : k < nw n := hk
  obtain ⟨g, cp, f, hv, _, hle, _, hrow, hf⟩ := own_row h (by omega)
  injection hv with h1 h2 h3
  subst h1
  refine ⟨g, 0, rfl, ?_⟩
  rw [Nat.zero_add, hrow.cell (by omega)]
  have e := hf k hk'
  rw [wl_at hk'] at e
  exact e.symm
set_option maxHeartbeats 3200000 in
set_option maxRecDepth 100000 in
theorem setL_any (f : Nat → Bool) (n : Nat) (ao : Option Addr) (ca : Nat) (w : World) (h1 : n ≤ 16777216) (hl : RB w ao f n) :
    Calls Try.prog 84 #[.slice ao n ca] w fun e w' => ∃ bo cb, e = .returned (rv n bo (nw n) cb) ∧ w'.ownsRow (w.heap.size + 1) 48 1 (.slice bo (nw n) cb) (nw n) (wl (bn f n) (nw n)) ∧ Below w.heap.size w w' := by
  have HR := hid1 hl
  have hbd := nw_bd h1
  have HN := hid1 (bn_lt f n)
  have HBB : Hid (∀ i, (bn f n).testBit i = (decide (i < n) && f i)) := bn_bit f n
  obtain ⟨N, eN⟩ : ∃ N, bn f n = N := ⟨_, rfl⟩
  rw [eN] at HN HBB ⊢
  clear hl eN
  go_enter Try.func84, Try.ntmps84
  go_wp2_with fail
  go_loopw [4] (fun i wr => ∃ (k : Nat) (vo : Option Addr) (vc : Nat), k ≤ nw n ∧ i = .int .i64 ((64 * k : Nat) : Int) ∧ wr.ownsRow (w.heap.size + 2) 48 1 (.slice vo k vc) k (wl N k) ∧ wr.rowIs w.heap.size 41 2 (sf 0 none 0 0) ∧ wr.rowIs (w.heap.size + 1) 41 2 (sf n vo k vc) ∧ Below w.heap.size w wr) (fun i _ => 64 * nw n - (intOf i).toNat)
  case atStart => exact ⟨0, none, 0, Nat.zero_le _, rfl, World.ownsRow_nil _ _ _ _, (row_new _ _ _ _ _ _).alloc _, by have h := row_new (w.alloc (.cells #[.int .i64 0, .slice none 0 0] 41)) n none 0 0 41; rw [World.size_alloc] at h; exact h, bl_alloc (bl_alloc (Below.refl _ _) _) _⟩
  case round =>
    obtain ⟨k, vo, vc, hk, rfl, hown, r2, r3, B0⟩ := hrel
    have R2 := hid1 r2
    have R3 := hid1 r3
    have HO := hid1 hown
    have sz : w.heap.size + 2 ≤ wr.heap.size := by have := r3.lt; omega
    clear r2 r3 hown
    by_cases hlt : 64 * k < n
    · have hkn : k < nw n := by unfold nw; omega
      have ik : ((64 * k : Nat) : Int) < (n : Int) := by omega
      have ik0 : (0 : Int) ≤ ((64 * k : Nat) : Int) := by omega
      have ik1 : ((64 * k : Nat) : Int) ≤ 16777216 := by omega
      have hx := wd_lt N k
      have HX := hid1 (fun j => wd_bit N k j)
      obtain ⟨x, ex⟩ : ∃ x, wd N k = x := ⟨_, rfl⟩
      rw [ex] at hx HX
      have HWF : Hid (wf N k = .int .u64 (x : Int)) := hid1 (by unfold wf; rw [ex])
      generalize hP : 64 * k = P at *
      clear ex
      go_wp2_with fail
      go_loop [5, 6] (fun v j => ∃ q : Nat, q ≤ 64 ∧ j = .int .i64 ((q : Int) - 1) ∧ v = .int .u64 ((x / 2 ^ q : Nat) : Int)) (fun _ j => ((intOf j) + 1).toNat)
      case atStart => exact ⟨64, Nat.le_refl _, rfl, by rw [Nat.div_eq_of_lt (by rw [← two64]; exact hx)]; rfl⟩
      case round =>
        obtain ⟨q, hq, rfl, rfl⟩ := hrel
        rcases q with _ | q
        · have d1 := sf_ws R3.out
          have f1 := R3.out.frozen 1
          have l1 := R3.out.lt
          have hx0 : x / 2 ^ 0 = x := by simp
          rw [hx0]
          clear hx0
          go_wp2_with (at_builtin; refine app_word rfl _ _ rfl (w.heap.size + 2) (.slice vo k vc) N k (by go_simp) (HO.out.alloc _) wr.heap.size (x : Int) 1 (by go_simp) (by simp [go_sem]) (by omega) (by simp; omega) HWF.out ?_; intro v' w2 hown2 hgrow; obtain ⟨vo2, vc2, rfl⟩ := own_form2 hown2; have r32 := row_grown (R3.out.alloc _) (HO.out.alloc _) hgrow (by decide); have r22 := row_grown (R2.out.alloc _) (HO.out.alloc _) hgrow (by decide); have e1 := sf_ws r32; have ef := r32.frozen 1; have el := r32.lt; have O2 := hid1 hown2; have G2 := hid1 hgrow; have R32 := hid1 r32; have R22 := hid1 r22; clear hown2 hgrow r32 r22)
          have BQ := grown_below HO.out sz G2.out
          refine ⟨⟨k + 1, vo2, vc2, by omega, by rw [show 64 * (k + 1) = P + 64 by omega]; go_num, ownsRow_setCell_below O2.out (by show w.heap.size + 1 < w.heap.size + 2; omega) _, R22.out.setOther (a := ⟨w.heap.size + 1, 1, none⟩) (by show w.heap.size ≠ w.heap.size + 1; omega) _, (R32.out.set 1 _).congr fun j hj => ?_, (B0.trans (BQ.mono (by omega))).setCell (by show w.heap.size ≤ w.heap.size + 1; omega) _⟩, by simp [intOf]; omega⟩
          unfold sf
          rcases j with _ | _ | j
          · rfl
          · rfl
          · omega
        · have HS := hid1 (half_step x q)
          have hb1 := HX.out q
          rw [decide_eq_true (show q < 64 by omega), Bool.true_and] at hb1
          have hb2 := HBB.out (P + q)
          have hy : x / 2 ^ (q + 1) < 9223372036854775808 := by
            have h3 : x / 2 ^ (q + 1) ≤ x / 2 := by
              rw [Nat.pow_succ, Nat.mul_comm, ← Nat.div_div_eq_div_mul]
              exact Nat.div_le_self _ _
            omega
          generalize x / 2 ^ (q + 1) = y at *
          have iq : ((q + 1 : Nat) : Int) - 1 = (q : Int) := by omega
          rw [iq]
          have iq0 : (0 : Int) ≤ (q : Int) := by omega
          have iq1 : (q : Int) ≤ 63 := by omega
          by_cases hin : P + q < n
          · obtain ⟨ga, oa, rfl, c8⟩ := HR.out (P + q) hin
            replace c8 := keepc B0 c8
            have ip : (P : Int) + (q : Int) < (n : Int) := by omega
            have tp : ((P : Int) + (q : Int)).toNat = P + q := by omega
            rw [decide_eq_true hin, Bool.true_and] at hb2
            cases hf : f (P + q)
            · rw [hf] at c8 hb2
              have HT : Hid (((x / 2 ^ q : Nat) : Int) = 2 * (y : Int)) := hid1 (by rw [HS.out, hb1, hb2]; simp)
              clear hb1 hb2 hf
              go_wp2_with fail
              exact ⟨⟨q, by omega, by go_num, by rw [HT.out]; exact congrArg (Value.int .u64) (by omega)⟩, by simp [intOf]⟩
            · rw [hf] at c8 hb2
              have HT : Hid (((x / 2 ^ q : Nat) : Int) = 2 * (y : Int) + 1) := hid1 (by rw [HS.out, hb1, hb2]; simp)
              clear hb1 hb2 hf
              go_wp2_with fail
              exact ⟨⟨q, by omega, by go_num, by rw [HT.out]; exact congrArg (Value.int .u64) (by omega)⟩, by simp [intOf]⟩
          · have ip : ¬ (P : Int) + (q : Int) < (n : Int) := by omega
            rw [decide_eq_false hin, Bool.false_and] at hb2
            have HT : Hid (((x / 2 ^ q : Nat) : Int) = 2 * (y : Int)) := hid1 (by rw [HS.out, hb1, hb2]; simp)
            clear hb1 hb2
            go_wp2_with fail
            exact ⟨⟨q, by omega, by go_num, by rw [HT.out]; exact congrArg (Value.int .u64) (by omega)⟩, by simp [intOf]⟩
    · have hkn : k = nw n := by unfold nw at *; omega
      have ik : ¬ ((64 * k : Nat) : Int) < (n : Int) := by omega
      subst hkn
      have d0 := sf_len R3.out
      have d1 := sf_ws R3.out
      have e0 := sf_len R2.out
      have e1 := sf_ws R2.out
      have f0 := R2.out.frozen 0
      have f1 := R2.out.frozen 1
      have l1 := R2.out.lt
      generalize hP : 64 * nw n = P at *
      clear hP
      go_wp2_with fail
      refine bodyPost_ret (v := rv n vo (nw n) vc) (by simp [results, Try.results84, go_sem, e0, e1]) rfl ⟨vo, vc, rfl, ?_, ?_⟩
      · exact ownsRow_setCell_below (ownsRow_setCell_below (own_mono HO.out (by omega)) (by show w.heap.size < w.heap.size + 1; omega) _) (by show w.heap.size < w.heap.size + 1; omega) _
      · exact (B0.setCell (Nat.le_refl _) _).setCell (Nat.le_refl _) _
end Go.Proofs.Ytlilldgconlchaa
/- heddlelaw13: roomy, kept: words with marks behind them. -/
namespace Go.Proofs.Ytlilldgconlchaa
open Go.RowKit Go.Shelf

/-- The words of N (n of them), and i marks behind them, as a number. -/
def rmN (N n : Nat) : Nat → Nat
  | 0 => N
  | i + 1 => rmN N n i ||| (77 + i) * 2 ^ (64 * (n + i))
theorem rmN_lt {N n : Nat} (hN : N < 2 ^ (64 * n)) : ∀ i, i ≤ 20 → rmN N n i < 2 ^ (64 * (n + i))
  | 0, _ => hN
  | i + 1, hi => by
    have h1 := rmN_lt hN i (by omega)
    have e : 64 * (n + (i + 1)) = 64 * (n + i) + 64 := by omega
    refine Nat.or_lt_two_pow (Nat.lt_of_lt_of_le h1 (Nat.pow_le_pow_right (by decide) (by omega))) ?_
    rw [e, Nat.pow_add, Nat.mul_comm]
    exact Nat.mul_lt_mul_of_pos_left (Nat.lt_of_lt_of_le (show 77 + i < 128 by omega) (by decide)) (Nat.two_pow_pos _)
theorem wd_shift (x a k : Nat) (hx : x < 18446744073709551616) : wd (x * 2 ^ (64 * a)) k = if k = a then x else 0 := by
  refine wd_ext (wd_lt _ _) (by split; exact hx; decide) fun j hj => ?_
  rw [wd_bit, mul_bit]
  by_cases e : k = a
  · subst e
    rw [if_pos rfl]
    have h1 : 64 * k ≤ 64 * k + j := by omega
    have h2 : 64 * k + j - 64 * k = j := by omega
    simp [hj, h2]
  · rw [if_neg e]
    by_cases h : 64 * a ≤ 64 * k + j
    · have hb : x.testBit (64 * k + j - 64 * a) = false := Nat.testBit_lt_two_pow (Nat.lt_of_lt_of_le hx (by rw [two64]; exact Nat.pow_le_pow_right (by decide) (by omega)))
      simp [hb]
    · simp [h]
/-- The marks do not touch the words ahead; each is where it is put. -/
theorem rmN_wd {N n : Nat} (hN : N < 2 ^ (64 * n)) : ∀ i, i ≤ 20 → ∀ k, wd (rmN N n i) k = if k < n then wd N k else if k < n + i then 77 + (k - n) else 0
  | 0, _, k => by
    by_cases h : k < n
    · rw [if_pos h]; rfl
    · rw [if_neg h, if_neg (by omega)]
      refine wd_ext (wd_lt _ _) (by decide) fun j hj => ?_
      rw [wd_bit]
      have : (rmN N n 0).testBit (64 * k + j) = false := Nat.testBit_lt_two_pow (Nat.lt_of_lt_of_le hN (Nat.pow_le_pow_right (by decide) (by omega)))
      simp [this]
  | i + 1, hi, k => by
    have ih := rmN_wd hN i (by omega) k
    show wd (rmN N n i ||| (77 + i) * 2 ^ (64 * (n + i))) k = _
    rw [wd_or, ih, wd_shift _ _ _ (by omega)]
    by_cases h1 : k < n
    · rw [if_pos h1, if_neg (by omega), if_pos h1]; simp
    · rw [if_neg h1, if_neg h1]
      by_cases h2 : k = n + i
      · rw [if_neg (by omega), if_pos h2, if_pos (by omega)]; simp; omega
      · rw [if_neg h2]
        by_cases h3 : k < n + i
        · rw [if_pos h3, if_pos (by omega)]; simp
        · rw [if_neg h3, if_neg (by omega)]; simp
theorem wl_congr {A B n : Nat} (h : ∀ k, k < n → wd A k = wd B k) : wl A n = wl B n := by
  unfold wl
  refine List.map_congr_left fun k hk => ?_
  unfold wf
  rw [h k (List.mem_range.1 hk)]
theorem app_nilE {ops : Array Oper} {rest : List Oper} {o : Oper} {a : Act} {Q : Exit → Act → World → Prop} {w : World} (hgd : o.guard = none) (s x : Operand)
    (ho : o.op = .call { callee := .builtin .append, args := #[s, x], argTypes := #[31, 31] }) (hs : a.eval s = .slice none 0 0)
    (ao : Option Addr) (n N cap : Nat) (hx : a.eval x = .slice ao n cap) (hr : Wr w ao n N) (hM : n ≤ 17592186043904) (hn0 : ao = none → cap = 0)
    (h : ∀ v' w', w'.ownsRow w.heap.size 48 1 v' n (wl N n) → Below w.heap.size w w' → wpList Try.prog ops Q rest (a.put o.dst v') w') : wpList Try.prog ops Q (o :: rest) a w := by
  obtain ⟨i0, hi, hz0, hz1, hz2⟩ := info_parts info_u64
  cases ao with
  | none =>
    have h0 : n = 0 := by
      rcases Nat.eq_zero_or_pos n with h0 | h0
      · exact h0
      · obtain ⟨g, o', e, _⟩ := hr.2 0 h0
        cases e
    have h1 := hn0 rfl
    subst h0 h1
    exact wpList_append_own_none hgd s x _ ho w.heap.size 48 i0 1 und_u64s hi (.slice none 0 0) 0 [] hs (World.ownsRow_nil _ _ _ _) hx (h _ _ (World.ownsRow_nil _ _ _ _) (Below.refl _ _))
  | some ad =>
    refine wpList_append_own w hgd s x _ ho w.heap.size 48 i0 (.int .u64 0) 1 8 und_u64s hi hz0 hz1 hz2 rfl (by decide) (.slice none 0 0) 0 [] hs (World.ownsRow_nil _ _ _ _) ad n cap (wl N n) hx (by rw [wl_len]; omega)
      (fun j u hu => ?_) (fun u hu => by unfold wl at hu; obtain ⟨k, _, rfl⟩ := List.mem_map.1 hu; rfl) (by unfold maxLen; omega) (by omega) (Nat.le_refl _) ?_
    · obtain ⟨hj, rfl⟩ := wl_get hu
      obtain ⟨g, o', e, c⟩ := hr.2 j hj
      obtain rfl : ad = ⟨g, o', none⟩ := Option.some.inj e
      by_cases h0 : j = 0
      · subst h0; exact c
      · simp [Addr.add, h0, c]
    · intro v' w' h1 h2 _
      rw [Nat.zero_add, List.nil_append] at h1
      exact h v' w' h1 ((Below.refl _ _).grown h2 (Nat.le_refl _) (fun _ e => by cases e))
set_option maxHeartbeats 1600000 in
set_option maxRecDepth 100000 in
theorem roomyE_any (n N : Nat) (ao : Option Addr) (ca : Nat) (w : World) (hn : n ≤ 17592186043904) (hn0 : ao = none → ca = 0) (rd : Wr w ao n N) :
    Calls Try.prog 24 #[.slice ao n ca] w fun e w' => ∃ G K, e = .returned (.slice (some ⟨G, 0, none⟩) (n + 20) K) ∧ w.heap.size ≤ G ∧ Ow w' G K (n + 20) (rmN N n 20) ∧ Below w.heap.size w w' := by
  have RD := hid1 rd
  have HLT := hid1 rd.1
  clear rd
  go_enter Try.func24, Try.ntmps24
  go_wp2_with (at_builtin; refine app_nilE rfl _ _ rfl (by go_simp) ao n N ca (by go_simp) RD.out hn hn0 ?_; intro v1 w1 ow1 B1)
  have HO1 := hid1 ow1
  have HB1 := hid1 B1
  clear ow1 B1
  go_loopw [3, 4] (fun a x wr => ∃ (u : Value) (i : Nat), i ≤ 20 ∧ a = u ∧ x = .int .i64 i ∧ wr.ownsRow w.heap.size 48 1 u (n + i) (wl (rmN N n i) (n + i)) ∧ Below w.heap.size w wr) (fun _ x _ => 20 - (intOf x).toNat)
  case atStart => exact ⟨_, 0, Nat.zero_le _, rfl, rfl, HO1.out, HB1.out⟩
  case round =>
    clear HO1 HB1
    obtain ⟨u, i, hi, ea, rfl, ow, BB⟩ := hrel
    replace ea := ea.symm
    subst ea
    have ii0 : (0 : Int) ≤ (i : Int) := by omega
    by_cases hlt : i < 20
    · have ii : (i : Int) < 20 := by omega
      have wm : IntKind.i64.wrap (77 + (i : Int)) = 77 + (i : Int) := by rw [IntKind.wrap_i64]; omega
      have wm2 : IntKind.u64.wrap (77 + (i : Int)) = 77 + (i : Int) := by rw [IntKind.wrap_u64]; omega
      have hsz := BB.size
      have HO := hid1 (show wr.ownsRow w.heap.size 48 1 u (n + i) (wl (rmN N n (i + 1)) (n + i)) by
        rw [wl_congr (B := rmN N n i) (fun k hk => by rw [rmN_wd HLT.out (i + 1) (by omega), rmN_wd HLT.out i (by omega)]; by_cases h : k < n; rw [if_pos h, if_pos h]; rw [if_neg h, if_neg h, if_pos (by omega), if_pos (by omega)])]; exact ow)
      have HWF : Hid (wf (rmN N n (i + 1)) (n + i) = .int .u64 (77 + (i : Int))) := hid1 (by unfold wf; rw [rmN_wd HLT.out (i + 1) (by omega), if_neg (by omega), if_pos (by omega)]; simp)
      have HBB := hid1 BB
      clear ow BB
      go_wp2_with (at_builtin; refine app_word rfl _ _ rfl w.heap.size u (rmN N n (i + 1)) (n + i) (by go_simp) (HO.out.alloc _) wr.heap.size (77 + (i : Int)) 1 (by go_simp) (by simp [go_sem]) (by omega) (by simp; omega) HWF.out ?_; intro v2 w2 ow2 gr2)
      have B2 : Below w.heap.size w w2 := (HBB.out.alloc hsz _).grown gr2 (by simp; omega) (fun q hq => (HO.out.lt q hq).1)
      exact ⟨⟨v2, i + 1, by omega, rfl, by go_num, ow2, B2⟩, by simp [intOf]; omega⟩
    · obtain rfl : i = 20 := by omega
      obtain ⟨G, K, f, rfl, hG, h4, h5, hrow, hf⟩ := own_row ow (by omega)
      have HX : Hid (Ow wr G K (n + 20) (rmN N n 20)) := ⟨rmN_lt HLT.out 20 (Nat.le_refl _), h4, by unfold maxLen at h5; omega, f, hrow, fun j hj => by
        have := hf j hj
        rw [wl_at hj] at this
        injection this with this
        exact this.symm⟩
      clear ow hrow hf
      go_wp2_with fail
      go_ret
      exact ⟨G, K, rfl, hG, HX.out, BB⟩
/-- The words ahead of the marks. -/
theorem rmN_wr {w : World} {G K n N : Nat} (hN : N < 2 ^ (64 * n)) (h : Ow w G K (n + 20) (rmN N n 20)) : Wr w (some ⟨G, 0, none⟩) n N :=
  ⟨hN, fun k hk => by
    obtain ⟨g, o, e, c⟩ := h.wr.2 k (by omega)
    refine ⟨g, o, e, ?_⟩
    rw [c]
    unfold wf
    rw [rmN_wd hN 20 (Nat.le_refl _), if_pos hk]⟩
set_option maxRecDepth 100000 in
theorem keptE_true (n N G K : Nat) (bo : Option Addr) (cb : Nat) (w : World) (hn : n ≤ 17592186043904) (hn0 : bo = none → cb = 0) (h : Ow w G K (n + 20) (rmN N n 20)) (rb : Wr w bo n N) :
    Calls Try.prog 27 #[.slice (some ⟨G, 0, none⟩) (n + 20) K, .slice bo n cb] w fun e w' => e = .returned (.bool true) ∧ Below w.heap.size w w' := by
  have H1 := hid1 (roomyE_any n N bo cb w hn hn0 rb)
  have HO := hid1 h
  clear h rb
  go_enter Try.func27, Try.ntmps27
  go_wp2_with fail
  refine H1.out.mono ?_
  rintro e w1 ⟨G2, K2, rfl, _, o2, hb⟩
  have o1 := HO.out.below hb
  go_wp2_with fail
  refine (pwords_same (n + 20) (rmN N n 20) _ _ _ _ w1 (by omega) o1.wr o2.wr).mono ?_
  rintro e w2 ⟨rfl, hb2⟩
  have B2 := bl_step hb hb2
  go_wp2_with fail
  go_ret
  exact ⟨rfl, B2⟩
end Go.Proofs.Ytlilldgconlchaa
/- heddlelaw13: handed. -/
namespace Go.Proofs.Ytlilldgconlchaa
open Go.RowKit Go.Shelf

set_option maxRecDepth 100000 in
theorem handed_any (n N G K : Nat) (x : Int) (bo : Option Addr) (cb : Nat) (w : World) (hn : n ≤ 17592186043904) (h : Ow w G K (n + 20) N) :
    Calls Try.prog 25 #[.slice (some ⟨G, 0, none⟩) (n + 20) K, .agg #[.int .i64 x, .slice bo n cb]] w fun e w' => e = .returned (.agg #[.int .i64 x, .slice (some ⟨G, 0, none⟩) n (n + 20)]) ∧ Below w.heap.size w w' := by
  have hK := h.2.1
  have i1 : (0 : Int) ≤ (n : Int) := by omega
  have i2 : (n : Int) ≤ ((n + 20 : Nat) : Int) := by omega
  have i3 : ((n + 20 : Nat) : Int) ≤ (K : Int) := by omega
  have i4 : (n : Int) ≤ (n : Int) + 20 := by omega
  have i5 : (n : Int) + 20 ≤ (K : Int) := by omega
  clear h
  go_enter Try.func25, Try.ntmps25
  go_wp2_with fail
  refine still_tail 10 (by kernel_rfl) ?_
  simp only [List.take_succ_cons, List.take_zero, List.drop_succ_cons, List.drop_zero]
  repeat still_step
  refine wpStill_nil ?_
  go_wp2_with fail
  exact bodyPost_ret (v := .agg #[.int .i64 x, .slice (some ⟨G, 0, none⟩) n (n + 20)]) (by simp [results, Try.results25, go_sem]) rfl ⟨rfl, (bl_alloc (bl_alloc (Below.refl _ _) _) _).drew⟩
end Go.Proofs.Ytlilldgconlchaa
/- heddleref13: Lost. -/
namespace Go.Proofs.Ytlilldgconlchaa
open Go.RowKit

set_option maxHeartbeats 1600000 in
set_option maxRecDepth 100000 in
theorem rlost_any (A B X Y : Bt) (w : World) (hA : Rw w A) (hB : Rw w B) (hX : Rw w X) (hY : Rw w Y) :
    Calls Try.prog 26 #[rwv A B, rwv X Y] w fun e w' => e = .returned (.tuple #[.int .i64 (loV A B X Y), .int .i64 (loE A B X Y)]) ∧ Below w.heap.size w w' := by
  have HA := hid1 hA
  have HB := hid1 hB
  have HX := hid1 hX
  have HY := hid1 hY
  clear hA hB hX hY
  have HC1 := hid1 (fun (W : World) (hW : Below w.heap.size w W) => rcheck_any A B W (HA.out.below hW) (HB.out.below hW))
  have HC2 := hid1 (fun (W : World) (hW : Below w.heap.size w W) => rcheck_any X Y W (HX.out.below hW) (HY.out.below hW))
  by_cases h1 : dck A B = 0
  · by_cases h2 : dck X Y = 0
    · by_cases h3 : B.n = Y.n
      · obtain ⟨n, e1, e2, e3, e4, e5, e6, e7, e8⟩ := dck_zero h1
        obtain ⟨n', f1, f2, f3, f4, f5, f6, f7, f8⟩ := dck_zero h2
        obtain rfl : n' = n := by omega
        have hE : loE A B X Y = 0 := by unfold loE; rw [if_neg (by simp [h1]), if_neg (by simp [h2]), if_pos h3]
        have hV : loV A B X Y = lo A.N B.N Y.N n' := by unfold loV; rw [if_pos hE, e2, Int.toNat_natCast]
        rw [hE, hV]
        rw [h1] at HC1
        rw [h2] at HC2
        have hb := nw_bd e3
        have HWG := hid1 (fun (W : World) (hW : Below w.heap.size w W) => weights_any A B n' W (HA.out.below hW) (HB.out.below hW) e3 e2 e4 e5)
        clear hE hV h1 h2
        obtain ⟨an, aa, am, ac, AN⟩ := A
        obtain ⟨bn, ba, bm, bc, BN⟩ := B
        obtain ⟨xn, xa, xm, xc, XN⟩ := X
        obtain ⟨yn, ya, ym, yc, YN⟩ := Y
        dsimp only at *
        subst e4 e5 f4 f5
        clear h3
        subst e2 f2
        clear e1 f1
        go_enter Try.func26, Try.ntmps26
        go_wp2_with fail
        refine gen_calls (fun W => Below w.heap.size w W ∧ W.rowIs w.heap.size 46 4 (qf ⟨an, aa, nw n', ac, AN⟩ ⟨(n' : Nat), ba, nw n', bc, BN⟩) ∧ W.rowIs (w.heap.size + 1) 46 4 (qf ⟨xn, xa, nw n', xc, XN⟩ ⟨(n' : Nat), ya, nw n', yc, YN⟩)) (by obtain ⟨X, rfl, z⟩ := lost_start w ⟨an, aa, nw n', ac, AN⟩ ⟨(n' : Nat), ba, nw n', bc, BN⟩ ⟨xn, xa, nw n', xc, XN⟩ ⟨(n' : Nat), ya, nw n', yc, YN⟩; exact z) ?_
        rintro W ⟨B0, r1, r2⟩
        refine (HC1.out W B0).mono ?_
        rintro e w1 ⟨rfl, hb1⟩
        replace r1 := keepr hb1 r1
        replace r2 := keepr hb1 r2
        replace B0 := bl_step B0 hb1
        clear hb1
        have c0 := q0 r2
        have c1 := q1 r2
        have c2 := q2 r2
        have c3 := q3 r2
        go_wp2_with fail
        refine (HC2.out w1 B0).mono ?_
        rintro e w2 ⟨rfl, hb1⟩
        replace r1 := keepr hb1 r1
        replace r2 := keepr hb1 r2
        replace B0 := bl_step B0 hb1
        clear hb1 c0 c1 c2 c3 HC1 HC2
        have c2 := q2 r1
        have d2 := q2 r2
        have c0 := q0 r1
        have c1 := q1 r1
        have c3 := q3 r1
        go_wp2_with fail
        refine (HWG.out w2 B0).mono ?_
        rintro e w3 ⟨wo, wcap, rfl, hw, hb1⟩
        replace r1 := keepr hb1 r1
        replace r2 := keepr hb1 r2
        replace B0 := bl_step B0 hb1
        clear hb1 c0 c1 c2 c3 d2 HWG
        have HW0 := hid1 hw
        have HR2 := hid1 r2
        have HB0 := hid1 B0
        clear hw r1 r2 B0
        go_wp2_with fail
        go_loopw [7, 9] (fun s i wr => ∃ k : Nat, k ≤ n' ∧ i = .int .i64 k ∧ s = .int .i64 (lo AN BN YN k) ∧ Below w3.heap.size w3 wr) (fun _ i _ => n' - (intOf i).toNat)
        case atStart => exact ⟨0, Nat.zero_le _, rfl, rfl, Below.refl _ _⟩
        case round =>
          obtain ⟨k, hk, rfl, rfl, BW⟩ := hrel
          have ik0 : (0 : Int) ≤ (k : Int) := by omega
          by_cases hlt : k < n'
          · obtain ⟨g1, o1, rfl, d1⟩ := (HW0.out.below BW) k hlt
            have ik : (k : Int) < (n' : Nat) := by omega
            have r2 := keepr BW HR2.out
            have c2 := q2 r2
            have c3 := q3 r2
            have HBT := hid1 (tbit_any ⟨(n' : Nat), ya, nw n', yc, YN⟩ k wr (by show k < 64 * nw n'; have := nw_le n'; omega) (by show nw n' ≤ 262144; omega) ((HY.out.below HB0.out).below BW))
            have b1 := lo_bd AN BN YN k
            have HL := hid1 (lo_succ AN BN YN k)
            have b3 : -1 ≤ wt AN BN k ∧ wt AN BN k ≤ 1 := by unfold wt; split; split <;> omega; omega
            generalize wt AN BN k = V1 at d1 b3 HL
            generalize lo AN BN YN k = L0 at b1 HL ⊢
            have wL : IntKind.i64.wrap (L0 + V1) = L0 + V1 := by rw [IntKind.wrap_i64]; omega
            dsimp only at HBT
            have lg := lt_of_cell d1
            clear r2
            by_cases hy : YN.testBit k = true
            · rw [hy] at HBT HL
              go_wp2_with fail
              refine HBT.out.mono ?_
              rintro e w4 ⟨rfl, hb1⟩
              have BX := bl_step BW hb1
              go_wp2_with fail
              exact ⟨⟨k + 1, by omega, by go_num, by rw [HL.out]; simp, BX⟩, by simp [intOf]; omega⟩
            · have hy' : YN.testBit k = false := by simpa using hy
              rw [hy'] at HBT HL
              go_wp2_with fail
              refine HBT.out.mono ?_
              rintro e w4 ⟨rfl, hb1⟩
              have BX := bl_step BW hb1
              replace d1 := keepc hb1 d1
              go_wp2_with fail
              exact ⟨⟨k + 1, by omega, by go_num, by rw [HL.out]; simp, BX⟩, by simp [intOf]; omega⟩
          · have hkN : k = n' := by omega
            subst hkN
            have BX := bl_step HB0.out BW
            go_wp2_with fail
            exact bodyPost_ret (v := .tuple #[.int .i64 (lo AN BN YN k), .int .i64 0]) (by simp [results, Try.results26, go_sem]) rfl ⟨rfl, BX⟩
      · have hE : loE A B X Y = 20 := by unfold loE; rw [if_neg (by simp [h1]), if_neg (by simp [h2]), if_neg h3]
        have hV : loV A B X Y = 0 := by unfold loV; rw [if_neg (by rw [hE]; decide)]
        rw [hE, hV]
        rw [h1] at HC1
        rw [h2] at HC2
        clear hE hV h1 h2
        have h3' : decide (B.n = Y.n) = false := by simpa using h3
        go_enter Try.func26, Try.ntmps26
        go_wp2_with fail
        refine gen_calls (fun W => Below w.heap.size w W ∧ W.rowIs w.heap.size 46 4 (qf A B) ∧ W.rowIs (w.heap.size + 1) 46 4 (qf X Y)) (by obtain ⟨W, rfl, z⟩ := lost_start w A B X Y; exact z) ?_
        rintro W ⟨B0, r1, r2⟩
        refine (HC1.out W B0).mono ?_
        rintro e w1 ⟨rfl, hb1⟩
        replace r1 := keepr hb1 r1
        replace r2 := keepr hb1 r2
        replace B0 := bl_step B0 hb1
        clear hb1
        have c0 := q0 r2
        have c1 := q1 r2
        have c2 := q2 r2
        have c3 := q3 r2
        go_wp2_with fail
        refine (HC2.out w1 B0).mono ?_
        rintro e w2 ⟨rfl, hb1⟩
        replace r1 := keepr hb1 r1
        replace r2 := keepr hb1 r2
        replace B0 := bl_step B0 hb1
        clear hb1 c0 c1 c2 c3
        have c2 := q2 r1
        have d2 := q2 r2
        go_wp2_with fail
        exact bodyPost_ret (v := .tuple #[.int .i64 0, .int .i64 20]) (by simp [results, Try.results26, go_sem]) rfl ⟨rfl, B0⟩
    · have hE : loE A B X Y = dck X Y := by unfold loE; rw [if_neg (by simp [h1]), if_pos h2]
      have hV : loV A B X Y = 0 := by unfold loV; rw [if_neg (by rw [hE]; exact h2)]
      rw [hE, hV]
      rw [h1] at HC1
      clear hE hV h1
      generalize dck X Y = E at HC2 h2 ⊢
      have h2' : decide (E = 0) = false := by simpa using h2
      go_enter Try.func26, Try.ntmps26
      go_wp2_with fail
      refine gen_calls (fun W => Below w.heap.size w W ∧ W.rowIs w.heap.size 46 4 (qf A B) ∧ W.rowIs (w.heap.size + 1) 46 4 (qf X Y)) (by obtain ⟨W, rfl, z⟩ := lost_start w A B X Y; exact z) ?_
      rintro W ⟨B0, r1, r2⟩
      refine (HC1.out W B0).mono ?_
      rintro e w1 ⟨rfl, hb1⟩
      replace r1 := keepr hb1 r1
      replace r2 := keepr hb1 r2
      replace B0 := bl_step B0 hb1
      clear hb1
      have c0 := q0 r2
      have c1 := q1 r2
      have c2 := q2 r2
      have c3 := q3 r2
      go_wp2_with fail
      refine (HC2.out w1 B0).mono ?_
      rintro e w2 ⟨rfl, hb1⟩
      replace r1 := keepr hb1 r1
      replace r2 := keepr hb1 r2
      replace B0 := bl_step B0 hb1
      clear hb1 c0 c1 c2 c3
      go_wp2_with fail
      exact bodyPost_ret (v := .tuple #[.int .i64 0, .int .i64 E]) (by simp [results, Try.results26, go_sem]) rfl ⟨rfl, B0⟩
  · have hE : loE A B X Y = dck A B := by unfold loE; rw [if_pos h1]
    have hV : loV A B X Y = 0 := by unfold loV; rw [if_neg (by rw [hE]; exact h1)]
    rw [hE, hV]
    clear hE hV
    generalize dck A B = E at HC1 h1 ⊢
    have h1' : decide (E = 0) = false := by simpa using h1
    go_enter Try.func26, Try.ntmps26
    go_wp2_with fail
    refine gen_calls (fun W => Below w.heap.size w W ∧ W.rowIs w.heap.size 46 4 (qf A B) ∧ W.rowIs (w.heap.size + 1) 46 4 (qf X Y)) (by obtain ⟨W, rfl, z⟩ := lost_start w A B X Y; exact z) ?_
    rintro W ⟨B0, r1, r2⟩
    refine (HC1.out W B0).mono ?_
    rintro e w1 ⟨rfl, hb1⟩
    replace r1 := keepr hb1 r1
    replace r2 := keepr hb1 r2
    replace B0 := bl_step B0 hb1
    clear hb1
    go_wp2_with fail
    exact bodyPost_ret (v := .tuple #[.int .i64 0, .int .i64 E]) (by simp [results, Try.results26, go_sem]) rfl ⟨rfl, B0⟩
end Go.Proofs.Ytlilldgconlchaa
/- heddleref13: lay. -/
namespace Go.Proofs.Ytlilldgconlchaa
open Go.RowKit Go.Shelf

theorem info_boolE : (Try.prog.info? 4).map (fun i => (i.zero, i.size, i.bytes)) = some (some (.bool false), 1, 1) := by kernel_rfl
theorem und_boolsE : Try.prog.underlying 135 = some (.slice 4) := by kernel_rfl
def blE (f : Nat → Bool) (n : Nat) : List Value := (List.range n).map fun i => .bool (f i)
theorem blE_snoc (f : Nat → Bool) (n : Nat) : blE f (n + 1) = blE f n ++ [.bool (f n)] := by simp [blE, List.range_succ]
theorem blE_at {f : Nat → Bool} {n j : Nat} (h : j < n) : (blE f n)[j]? = some (.bool (f j)) := by simp [blE, h]
theorem appB {ops : Array Oper} {rest : List Oper} {o : Oper} {a : Act} {Q : Exit → Act → World → Prop} {w : World} (hgd : o.guard = none) (s x : Operand)
    (ho : o.op = .call { callee := .builtin .append, args := #[s, x], argTypes := #[135, 135] }) (base : Nat) (v : Value) (f : Nat → Bool) (n : Nat) (hs : a.eval s = v) (hown : w.ownsRow base 4 1 v n (blE f n))
    (y : Bool) (hx : a.eval x = .slice (some ⟨w.heap.size, 0, none⟩) 1 1) (hM : n ≤ 16777216) (hb : base ≤ w.heap.size) (hy : y = f n)
    (h : ∀ v' w', w'.ownsRow base 4 1 v' (n + 1) (blE f (n + 1)) → (w.alloc (.cells #[.bool y] 4)).grownBy w' v.ownBlock → (v'.ownBlock = v.ownBlock ∨ v'.ownBlock = some (w.heap.size + 1)) → wpList Try.prog ops Q rest (a.put o.dst v') w') : wpList Try.prog ops Q (o :: rest) a (w.alloc (.cells #[.bool y] 4)) := by
  obtain ⟨i0, hi, hz0, hz1, hz2⟩ := info_parts info_boolE
  refine wpList_append_own_at _ hgd s x _ ho base 4 i0 (.bool false) 1 1 und_boolsE hi hz0 hz1 hz2 rfl (by decide) v n (blE f n) hs (hown.alloc _) ⟨w.heap.size, 0, none⟩ 1 1 [.bool y] hx rfl
    (fun j u hu => ?_) (fun u hu => by simp at hu; subst hu; rfl) (by unfold maxLen; omega) (by omega) (by simp; omega) ?_
  · rcases j with _ | j
    · simp at hu; subst hu; simp [Addr.add, go_sem]
    · simp at hu
  · intro v' w' h1 h2 _ h3
    exact h v' w' (by rw [blE_snoc, ← hy]; exact h1) h2 (by simpa using h3)
/-- Two lists of truth values, apart. -/
structure Ly (w wr : World) (uS uM : Value) (fS fM : Nat → Bool) (j j' : Nat) : Prop where
  oS : wr.ownsRow (w.heap.size + 1) 4 1 uS j (blE fS j)
  oM : wr.ownsRow (w.heap.size + 1) 4 1 uM j' (blE fM j')
  ne : uS.ownBlock = none ∨ uM.ownBlock = none ∨ uS.ownBlock ≠ uM.ownBlock
  r0 : wr.rowIs w.heap.size 46 4 (qf ⟨0, none, 0, 0, 0⟩ ⟨0, none, 0, 0, 0⟩)
  b : Below w.heap.size w wr
theorem ly_new {w : World} {base n : Nat} {v : Value} {xs : List Value} (h : w.ownsRow base 4 1 v n xs) : v.ownBlock ≠ some (w.heap.size + 1) := fun e => by
  have := (h.lt _ e).2
  omega
theorem Ly.sign {w wr w1 : World} {uS uM v1 : Value} {fS fM : Nat → Bool} {J : Nat} {y : Bool} (h : Ly w wr uS uM fS fM J J) (ow : w1.ownsRow (w.heap.size + 1) 4 1 v1 (J + 1) (blE fS (J + 1))) (gr : (wr.alloc (.cells #[.bool y] 4)).grownBy w1 uS.ownBlock) (at1 : v1.ownBlock = uS.ownBlock ∨ v1.ownBlock = some (wr.heap.size + 1)) : Ly w w1 v1 uM fS fM (J + 1) J := by
  have hM : w1.ownsRow (w.heap.size + 1) 4 1 uM J (blE fM J) := by
    refine (h.oM.alloc _).kept gr ?_
    rcases h.ne with e | e | e
    · rw [e]; cases uM.ownBlock <;> simp
    · rw [e]; simp
    · cases e2 : uM.ownBlock with
      | none => simp
      | some k => rw [e2] at e; exact .inr (Ne.symm e)
  refine ⟨ow, hM, ?_, row_grown (h.r0.alloc _) (h.oS.alloc _) gr (by decide), ?_⟩
  · rcases at1 with e | e
    · rw [e]; exact h.ne
    · right; right
      rw [e]
      exact fun e2 => ly_new h.oM e2.symm
  · have hb := h.b.alloc h.b.size (.cells #[.bool y] 4)
    exact hb.grown gr (by have := h.b.size; simp; omega) (fun q hq => by have := (h.oS.lt q hq).1; omega)
theorem Ly.some {w wr w1 : World} {uS uM v1 : Value} {fS fM : Nat → Bool} {J : Nat} {y : Bool} (h : Ly w wr uS uM fS fM (J + 1) J) (ow : w1.ownsRow (w.heap.size + 1) 4 1 v1 (J + 1) (blE fM (J + 1))) (gr : (wr.alloc (.cells #[.bool y] 4)).grownBy w1 uM.ownBlock) (at1 : v1.ownBlock = uM.ownBlock ∨ v1.ownBlock = .some (wr.heap.size + 1)) : Ly w w1 uS v1 fS fM (J + 1) (J + 1) := by
  have hS : w1.ownsRow (w.heap.size + 1) 4 1 uS (J + 1) (blE fS (J + 1)) := by
    refine (h.oS.alloc _).kept gr ?_
    rcases h.ne with e | e | e
    · rw [e]; simp
    · rw [e]; cases uS.ownBlock <;> simp
    · cases e2 : uS.ownBlock with
      | none => simp
      | some k => rw [e2] at e; exact .inr e
  refine ⟨hS, ow, ?_, row_grown (h.r0.alloc _) (h.oM.alloc _) gr (by decide), ?_⟩
  · rcases at1 with e | e
    · rw [e]; exact h.ne
    · right; right
      rw [e]
      exact ly_new h.oS
  · have hb := h.b.alloc h.b.size (.cells #[.bool y] 4)
    exact hb.grown gr (by have := h.b.size; simp; omega) (fun q hq => by have := (h.oM.lt q hq).1; omega)
theorem ly_rb {w : World} {base n : Nat} {v : Value} {f : Nat → Bool} (h : w.ownsRow base 4 1 v n (blE f n)) : ∃ ao cap, v = .slice ao n cap ∧ RB w ao f n := by
  rcases h.2 with ⟨rfl, h0⟩ | ⟨g, cap, cur, rfl, _⟩
  · exact ⟨none, 0, by rw [h0], fun k hk => absurd hk (by omega)⟩
  · refine ⟨_, cap, rfl, fun k hk => ⟨g, 0, rfl, ?_⟩⟩
    have := h.cells (g := g) rfl k _ (blE_at (f := f) hk)
    rcases k with _ | k <;> simpa [Addr.add] using this
/-- A list of lists of numbers, each of C. -/
def LL (w : World) (ao : Option Addr) (P C : Nat) (v : Nat → Nat → Int) : Prop := ∀ p, p < P → ∃ g o xo xc, ao = some ⟨g, o, none⟩ ∧ w.cell? ⟨g, o + p, none⟩ = some (.slice xo C xc) ∧ ∀ k, k < C → ∃ g' o', xo = some ⟨g', o', none⟩ ∧ w.cell? ⟨g', o' + k, none⟩ = some (.int .i64 (v p k))
theorem LL.below {w w' : World} {ao : Option Addr} {P C : Nat} {v : Nat → Nat → Int} (h : LL w ao P C v) (hb : Below w.heap.size w w') : LL w' ao P C v := fun p hp => by
  obtain ⟨g, o, xo, xc, e, c, q⟩ := h p hp
  exact ⟨g, o, xo, xc, e, keepc hb c, fun k hk => by obtain ⟨g', o', e', c'⟩ := q k hk; exact ⟨g', o', e', keepc hb c'⟩⟩
/-- What is laid. -/
def layS (C D : Nat) (v : Nat → Nat → Int) (j : Nat) : Bool := decide (j % D < C) && decide (0 < v (j / D) (j % D))
def layM (C D : Nat) (v : Nat → Nat → Int) (j : Nat) : Bool := decide (j % D < C) && decide (v (j / D) (j % D) ≠ 0)
set_option maxRecDepth 100000 in
theorem rplaces_any (n : Nat) (h1 : n ≤ 16777216) (w : World) :
    Calls Try.prog 59 #[.int .i64 n] w fun e w' => e = .returned (.int .i64 (nw n)) ∧ w' = w := by
  have e1 : ((n : Int) + 63) / 64 = (nw n : Nat) := by unfold nw; omega
  have hb := nw_bd h1
  go_enter Try.func59, Try.ntmps59
  go_wp2
  go_ret
  refine ⟨ret_int ?_, rfl⟩
  rw [e1]
set_option maxHeartbeats 3200000 in
set_option maxRecDepth 100000 in
theorem rlay_any (P C n : Nat) (v : Nat → Nat → Int) (ao : Option Addr) (ca : Nat) (w : World) (hC : 1 ≤ C ∧ C ≤ 4096) (hn : P * (64 * nw C) = n) (h1 : n ≤ 16777216) (hl : LL w ao P C v) :
    Calls Try.prog 60 #[.slice ao P ca] w fun e w' => ∃ bo1 c1 bo2 c2, e = .returned (rwv ⟨n, bo1, nw n, c1, 0⟩ ⟨n, bo2, nw n, c2, 0⟩) ∧ w'.ownsRow w.heap.size 48 1 (.slice bo1 (nw n) c1) (nw n) (wl (bn (layS C (64 * nw C) v) n) (nw n)) ∧ w'.ownsRow w.heap.size 48 1 (.slice bo2 (nw n) c2) (nw n) (wl (bn (layM C (64 * nw C) v) n) (nw n)) ∧ Below w.heap.size w w' := by
  have hd0 : 1 ≤ nw C := by unfold nw; omega
  have hd1 : nw C ≤ 64 := by unfold nw; omega
  have hCD := nw_le C
  have HPL := hid1 (rplaces_any C (by omega))
  obtain ⟨D, eD⟩ : ∃ D, 64 * nw C = D := ⟨_, rfl⟩
  have iD : (64 : Int) * (nw C : Int) = (D : Int) := by rw [← eD]; push_cast; rfl
  have wD : IntKind.i64.wrap (D : Int) = (D : Int) := by rw [IntKind.wrap_i64]; omega
  rw [eD] at hn hCD ⊢
  have hD0 : 0 < D := by omega
  have hDb : D ≤ 4096 := by omega
  have hPb : P ≤ 16777216 := Nat.le_trans (Nat.le_mul_of_pos_right P hD0) (by rw [hn]; exact h1)
  have HJ : Hid (∀ i k, i < P → k < D → i * D + k < n) := fun i k hi hk => by
    have := Nat.mul_le_mul_right D (show i + 1 ≤ P from hi)
    rw [Nat.succ_mul, hn] at this
    omega
  have HF : Hid (∀ i k, k < D → layS C D v (i * D + k) = (decide (k < C) && decide (0 < v i k)) ∧ layM C D v (i * D + k) = (decide (k < C) && decide (v i k ≠ 0))) := fun i k hk => by
    have e1 : (i * D + k) / D = i := by rw [Nat.mul_comm, Nat.mul_add_div hD0, Nat.div_eq_of_lt hk]; omega
    have e2 : (i * D + k) % D = k := by rw [Nat.mul_comm, Nat.mul_add_mod, Nat.mod_eq_of_lt hk]
    unfold layS layM
    rw [e1, e2]
    exact ⟨rfl, rfl⟩
  obtain ⟨fS, efS⟩ : ∃ fS, layS C D v = fS := ⟨_, rfl⟩
  obtain ⟨fM, efM⟩ : ∃ fM, layM C D v = fM := ⟨_, rfl⟩
  rw [efS, efM] at HF ⊢
  have HLL := hid1 hl
  have HN := hid1 hn
  clear hl hn efS efM eD
  go_enter Try.func60, Try.ntmps60
  go_wp2_with fail
  go_loopw [3, 4, 5] (fun a b x wr => ∃ (uS uM : Value) (i : Nat), i ≤ P ∧ a = uS ∧ b = uM ∧ x = .int .i64 i ∧ Ly w wr uS uM fS fM (i * D) (i * D)) (fun _ _ x _ => P - (intOf x).toNat)
  case atStart => exact ⟨_, _, 0, Nat.zero_le _, rfl, rfl, rfl, by rw [Nat.zero_mul]; exact ⟨World.ownsRow_nil _ _ _ _, World.ownsRow_nil _ _ _ _, .inl rfl, q_new w ⟨0, none, 0, 0, 0⟩ ⟨0, none, 0, 0, 0⟩ _, bl_alloc (Below.refl _ _) _⟩⟩
  case round =>
    obtain ⟨uS, uM, i, hi, ea, eb, rfl, ly⟩ := hrel
    replace ea := ea.symm
    replace eb := eb.symm
    subst ea eb
    have ii0 : (0 : Int) ≤ (i : Int) := by omega
    by_cases hlt : i < P
    · have ii : (i : Int) < (P : Int) := by omega
      have HLY := hid1 ly
      clear ly
      go_wp2_with fail
      go_loopw [3, 4, 6] (fun a b x wr => ∃ (uS uM : Value) (k : Nat), k ≤ D ∧ a = uS ∧ b = uM ∧ x = .int .i64 k ∧ Ly w wr uS uM fS fM (i * D + k) (i * D + k)) (fun _ _ x _ => D - (intOf x).toNat)
      case atStart => exact ⟨_, _, 0, Nat.zero_le _, rfl, rfl, rfl, HLY.out⟩
      case round =>
        clear HLY
        obtain ⟨uS, uM, k, hk, ea, eb, rfl, ly⟩ := hrel
        replace ea := ea.symm
        replace eb := eb.symm
        subst ea eb
        have ik0 : (0 : Int) ≤ (k : Int) := by omega
        obtain ⟨g, o, xo, xc, eao, c1, qq⟩ := (HLL.out.below ly.b) i hlt
        subst eao
        by_cases hkD : k < D
        · have ikD : (k : Int) < (D : Int) := by omega
          obtain ⟨f1, f2⟩ := HF.out i k hkD
          have hJ : i * D + k ≤ 16777216 := by have := HJ.out i k hlt hkD; omega
          obtain ⟨J, eJ⟩ : ∃ J, i * D + k = J := ⟨_, rfl⟩
          have EJ := hid1 eJ
          rw [eJ] at f1 f2 hJ ly
          have HS := hid1 ly.oS
          have HLY := hid1 ly
          have hsz : w.heap.size + 1 ≤ wr.heap.size := by have := ly.r0.lt; omega
          clear ly eJ
          by_cases hkC : k < C
          · have ikC : (k : Int) < (C : Int) := by omega
            obtain ⟨g', o', exo, c2⟩ := qq k hkC
            subst exo
            obtain ⟨y, ey⟩ : ∃ y, v i k = y := ⟨_, rfl⟩
            rw [ey] at c2 f1 f2
            have HYS : Hid (decide (0 < y) = fS J) := hid1 (by rw [f1]; simp [hkC])
            have HYM : Hid (fM J = decide (y ≠ 0)) := hid1 (by rw [f2]; simp [hkC])
            clear f1 f2 ey qq
            go_upto_region 13 with (first | (go_at_call 59; refine (HPL.out _).mono ?_; rintro e yy ⟨rfl, rfl⟩) | (at_builtin; refine appB rfl _ _ rfl (w.heap.size + 1) uS fS J (by go_simp) HS.out _ (by go_simp) hJ hsz HYS.out ?_; intro v1 w1 ow1 gr1 at1))
            have HL1 := hid1 (HLY.out.sign ow1 gr1 at1)
            have HM1 := hid1 HL1.out.oM
            have hsz1 : w.heap.size + 1 ≤ w1.heap.size := by have := HL1.out.r0.lt; omega
            clear HLY HS ow1 gr1 at1
            go_wp2_with (at_builtin; refine appB rfl _ _ rfl (w.heap.size + 1) uM fM J (by go_simp) HM1.out _ (by go_simp) hJ hsz1 (by rw [HYM.out]; by_cases h : y = 0 <;> simp [h]) ?_; intro v2 w2 ow2 gr2 at2)
            have HL2 := HL1.out.some ow2 gr2 at2
            exact ⟨⟨v1, v2, k + 1, by omega, rfl, rfl, by go_num, by rw [show i * D + (k + 1) = J + 1 by have := EJ.out; omega]; exact HL2⟩, by simp [intOf]; omega⟩
          · have ikC : ¬ (k : Int) < (C : Int) := by omega
            have HYS : Hid (false = fS J) := hid1 (by rw [f1]; simp [hkC])
            have HYM : Hid (fM J = false) := hid1 (by rw [f2]; simp [hkC])
            clear f1 f2 qq
            go_upto_region 13 with (first | (go_at_call 59; refine (HPL.out _).mono ?_; rintro e yy ⟨rfl, rfl⟩) | (at_builtin; refine appB rfl _ _ rfl (w.heap.size + 1) uS fS J (by go_simp) HS.out _ (by go_simp) hJ hsz HYS.out ?_; intro v1 w1 ow1 gr1 at1))
            have HL1 := hid1 (HLY.out.sign ow1 gr1 at1)
            have HM1 := hid1 HL1.out.oM
            have hsz1 : w.heap.size + 1 ≤ w1.heap.size := by have := HL1.out.r0.lt; omega
            clear HLY HS ow1 gr1 at1
            go_wp2_with (at_builtin; refine appB rfl _ _ rfl (w.heap.size + 1) uM fM J (by go_simp) HM1.out _ (by go_simp) hJ hsz1 HYM.out.symm ?_; intro v2 w2 ow2 gr2 at2)
            have HL2 := HL1.out.some ow2 gr2 at2
            exact ⟨⟨v1, v2, k + 1, by omega, rfl, rfl, by go_num, by rw [show i * D + (k + 1) = J + 1 by have := EJ.out; omega]; exact HL2⟩, by simp [intOf]; omega⟩
        · have hkN : k = D := by omega
          subst hkN
          have HX : Hid (Ly w wr uS uM fS fM ((i + 1) * k) ((i + 1) * k)) := by have := ly; rw [← Nat.succ_mul] at this; exact this
          clear ly qq
          go_wp2_with (go_at_call 59; refine (HPL.out _).mono ?_; rintro e yy ⟨rfl, rfl⟩)
          exact ⟨⟨uS, uM, i + 1, by omega, rfl, rfl, by go_num, HX.out⟩, by simp [intOf]; omega⟩
    · have hiP : i = P := by omega
      subst hiP
      obtain ⟨bo1, cb1, rfl, rb1⟩ := ly_rb ly.oS
      obtain ⟨bo2, cb2, rfl, rb2⟩ := ly_rb ly.oM
      have en : i * D = n := HN.out
      rw [en] at rb1 rb2
      have HRB1 := hid1 rb1
      have HRB2 := hid1 rb2
      have r0 := ly.r0
      have BB := ly.b
      rw [en]
      clear ly rb1 rb2 en
      have HST1 := hid1 (fun (W : World) r => setL_any fS n bo1 cb1 W h1 r)
      have HST2 := hid1 (fun (W : World) r => setL_any fM n bo2 cb2 W h1 r)
      go_wp2_with fail
      refine (HST1.out wr HRB1.out).mono ?_
      rintro e w1 ⟨d1, k1, rfl, ow1, hb1⟩
      replace r0 := keepr hb1 r0
      have B1 := bl_step BB hb1
      have s1 := hb1.size
      have s0 := BB.size
      have rb2 := HRB2.out.below hb1
      clear hb1 HST1 HRB1
      go_wp2_with fail
      refine (HST2.out w1 rb2).mono ?_
      rintro e w2 ⟨d2, k2, rfl, ow2, hb2⟩
      replace r0 := keepr hb2 r0
      have ow1' := own_keep ow1 hb2
      have B2 := bl_step B1 hb2
      have s2 := hb2.size
      clear hb2 HST2 HRB2 ow1
      have e0 := q0 r0
      have e1 := q1 r0
      have e2 := q2 r0
      have e3 := q3 r0
      have t0 := r0.frozen 0
      have t1 := r0.frozen 1
      have t2 := r0.frozen 2
      have t3 := r0.frozen 3
      have HO1 := hid1 ow1'
      have HO2 := hid1 ow2
      clear ow1' ow2
      go_wp2_with fail
      have put : ∀ {W : World} {x : Value} {N m : Nat} (k : Nat) (u : Value), W.ownsRow (w.heap.size + 1) 48 1 x m (wl N m) → (W.setCell ⟨w.heap.size, k, none⟩ u).ownsRow (w.heap.size + 1) 48 1 x m (wl N m) := fun k u h => ownsRow_setCell_below h (by show w.heap.size < w.heap.size + 1; omega) _
      have o1 := own_mono HO1.out (show w.heap.size + 1 ≤ wr.heap.size + 1 by omega)
      have o2 := own_mono HO2.out (show w.heap.size + 1 ≤ w1.heap.size + 1 by omega)
      exact bodyPost_ret (v := rwv ⟨n, d1, nw n, k1, 0⟩ ⟨n, d2, nw n, k2, 0⟩) (by simp [results, Try.results60, go_sem, e0, e1, e2, e3]) rfl ⟨d1, k1, d2, k2, rfl, own_mono (put 3 _ (put 2 _ (put 1 _ (put 0 _ o1)))) (by omega), own_mono (put 3 _ (put 2 _ (put 1 _ (put 0 _ o2)))) (by omega), bl_set (bl_set (bl_set (bl_set B2 (Nat.le_refl _) _) (Nat.le_refl _) _) (Nat.le_refl _) _) (Nat.le_refl _) _⟩
end Go.Proofs.Ytlilldgconlchaa
/- heddleref13: Spread's lists of numbers, in memory. -/
namespace Go.Proofs.Ytlilldgconlchaa
open Go.RowKit Go.Shelf

theorem info_intE : (Try.prog.info? 3).map (fun i => (i.zero, i.size, i.bytes)) = some (some (.int .i64 0), 1, 8) := by kernel_rfl
theorem und_intsE : Try.prog.underlying 64 = some (.slice 3) := by kernel_rfl
theorem info_intsE : (Try.prog.info? 64).map (fun i => (i.zero, i.size, i.bytes)) = some (some (.slice none 0 0), 1, 24) := by kernel_rfl
theorem und_intssE : Try.prog.underlying 115 = some (.slice 64) := by kernel_rfl
/-- An own list with one element another one. -/
theorem own_set1 {w : World} {base g n c q : Nat} {e : TypeId} {xs : List Value} (h : w.ownsRow base e 1 (.slice (some ⟨g, 0, none⟩) n c) n xs) (hq : q < n) (v : Value) : (w.setCell ⟨g, q, none⟩ v).ownsRow base e 1 (.slice (some ⟨g, 0, none⟩) n c) n (xs.set q v) := by
  obtain ⟨g', c', f, e1, hb, h4, h5, hrow, hf⟩ := own_row h (by omega)
  cases e1
  obtain ⟨cur, hc, hs, hcell⟩ := hrow.set q v
  have hlen : xs.length = n := by have := h.1; omega
  refine ⟨by simp [hlen], .inr ⟨g, c, cur, rfl, hb, hc, h4, h5, by omega, ?_⟩⟩
  refine List.ext_getElem? fun j => ?_
  by_cases hj : j < n
  · rw [Nat.mul_one, List.getElem?_take_of_lt hj]
    have h1 := hcell j (by omega)
    rw [Array.getElem?_toList, h1, List.getElem?_set]
    by_cases e : j = q
    · subst e; simp [hlen, hj]
    · show some (if j = q then v else f j) = _
      rw [if_neg e, if_neg (fun e2 => e e2.symm), hf j hj]
  · rw [List.getElem?_eq_none (by simp; omega), List.getElem?_eq_none (by simp; omega)]
theorem own_lt1 {w : World} {base n : Nat} {e : TypeId} {v : Value} {xs : List Value} (h : w.ownsRow base e 1 v n xs) {q : Nat} (hq : v.ownBlock = some q) : base ≤ q ∧ q < w.heap.size := h.lt q hq
/-- Blocks of two kinds are two. -/
theorem own_ne2 {w : World} {base base' : Nat} {e t : TypeId} {size size' n n' : Nat} {v v' : Value} {xs xs' : List Value} (h : w.ownsRow base e size v n xs) (h' : w.ownsRow base' t size' v' n' xs') (ht : e ≠ t) : v.ownBlock = none ∨ v.ownBlock ≠ v'.ownBlock := by
  rcases h.2 with ⟨rfl, _⟩ | ⟨g, cap, cur, rfl, _, hg, _⟩
  · left; rfl
  · rcases h'.2 with ⟨rfl, _⟩ | ⟨g', cap', cur', rfl, _, hg', _⟩
    · right; simp [Value.ownBlock]
    · right
      intro e1
      simp [Value.ownBlock] at e1
      subst e1
      rw [hg] at hg'
      injection hg' with hg'
      injection hg' with _ h2 _
      exact ht h2
theorem own_kept2 {w w' : World} {base : Nat} {e : TypeId} {size n : Nat} {v v' : Value} {xs : List Value} {o : Obj} (h : w.ownsRow base e size v n xs) (hne : v.ownBlock = none ∨ v.ownBlock ≠ v'.ownBlock) (hg : (w.alloc o).grownBy w' v'.ownBlock) : w'.ownsRow base e size v n xs := by
  refine (h.alloc o).kept hg ?_
  rcases hne with e1 | e1
  · rw [e1]; cases v'.ownBlock <;> simp
  · cases e2 : v.ownBlock with
    | none => simp
    | some k => rw [e2] at e1; simpa using e1
/-- Numbers of l from a on, n of them. -/
def ints (l : List Int) (a n : Nat) : List Value := (List.range n).map fun k => .int .i64 (ia l (a + k))
theorem ints_snoc (l : List Int) (a n : Nat) : ints l a (n + 1) = ints l a n ++ [.int .i64 (ia l (a + n))] := by simp [ints, List.range_succ]
theorem ints_at {l : List Int} {a n k : Nat} (h : k < n) : (ints l a n)[k]? = some (.int .i64 (ia l (a + k))) := by simp [ints, h]
def cnt (C k p : Nat) : Nat := min C (k - p * C)
structure Rl (w wr : World) (u : Value) (xs : List Value) (l : List Int) (C k : Nat) : Prop where
  o : wr.ownsRow (w.heap.size + 1) 64 1 u xs.length xs
  e : ∀ p (h : p < xs.length), wr.ownsRow (w.heap.size + 1) 3 1 xs[p] (cnt C k p) (ints l (p * C) (cnt C k p))
  d : ∀ p q (hp : p < xs.length) (hq : q < xs.length), p ≠ q → xs[p].ownBlock = none ∨ xs[p].ownBlock ≠ xs[q].ownBlock
  r0 : wr.rowIs w.heap.size 46 4 (qf ⟨0, none, 0, 0, 0⟩ ⟨0, none, 0, 0, 0⟩)
  b : Below w.heap.size w wr
/-- A new list, with nothing in it. -/
theorem Rl.nil {w wr w1 : World} {u u1 : Value} {xs : List Value} {l : List Int} {C k : Nat} {ob : Obj} (h : Rl w wr u xs l C k) (hk : xs.length * C = k) (ow : w1.ownsRow (w.heap.size + 1) 64 1 u1 (xs ++ [Value.slice none 0 0]).length (xs ++ [Value.slice none 0 0])) (gr : (wr.alloc ob).grownBy w1 u.ownBlock) : Rl w w1 u1 (xs ++ [Value.slice none 0 0]) l C k := by
  refine ⟨ow, fun p hp => ?_, fun p q hp hq hpq => ?_, row_grown (h.r0.alloc _) (h.o.alloc _) gr (by decide), ?_⟩
  · by_cases hpl : p < xs.length
    · rw [List.getElem_append_left hpl]
      exact own_kept2 (h.e p hpl) (own_ne2 (h.e p hpl) h.o (by decide)) gr
    · obtain rfl : p = xs.length := by simp at hp; omega
      rw [List.getElem_append_right (Nat.le_refl _)]
      have : cnt C k xs.length = 0 := by unfold cnt; rw [hk]; simp
      rw [this]
      simp only [Nat.sub_self, List.getElem_cons_zero]
      exact World.ownsRow_nil _ _ _ _
  · by_cases hpl : p < xs.length
    · rw [List.getElem_append_left hpl]
      by_cases hql : q < xs.length
      · rw [List.getElem_append_left hql]; exact h.d p q hpl hql hpq
      · obtain rfl : q = xs.length := by simp at hq; omega
        rw [List.getElem_append_right (Nat.le_refl _)]
        simp only [Nat.sub_self, List.getElem_cons_zero]
        cases e1 : xs[p].ownBlock with
        | none => left; rfl
        | some b => right; simp [Value.ownBlock]
    · obtain rfl : p = xs.length := by simp at hp; omega
      left
      rw [List.getElem_append_right (Nat.le_refl _)]
      simp only [Nat.sub_self, List.getElem_cons_zero]
      rfl
  · have hb := h.b.alloc h.b.size ob
    exact hb.grown gr (by have := h.b.size; simp; omega) (fun q hq => by have := (h.o.lt q hq).1; omega)
/-- A number more in the last list. -/
theorem Rl.push {w wr w1 : World} {xs : List Value} {l : List Int} {C k q gO cO : Nat} {v1 : Value} {ob : Obj} (hl : xs.length = q + 1) (h : Rl w wr (.slice (some ⟨gO, 0, none⟩) (q + 1) cO) xs l C k) (hq1 : q * C ≤ k) (hq2 : k < (q + 1) * C)
    (ow : w1.ownsRow (w.heap.size + 1) 3 1 v1 (cnt C k q + 1) (ints l (q * C) (cnt C k q + 1))) (gr : (wr.alloc ob).grownBy w1 (xs[q]'(by omega)).ownBlock) (at1 : v1.ownBlock = (xs[q]'(by omega)).ownBlock ∨ v1.ownBlock = some (wr.heap.size + 1)) :
    Rl w (w1.setCell ⟨gO, q, none⟩ v1) (.slice (some ⟨gO, 0, none⟩) (q + 1) cO) (xs.set q v1) l C (k + 1) := by
  have hqx : q < xs.length := by omega
  rw [Nat.succ_mul] at hq2
  have hcq : cnt C (k + 1) q = cnt C k q + 1 := by unfold cnt; omega
  have hcp : ∀ p, p < q → cnt C (k + 1) p = cnt C k p := fun p hp => by
    have := Nat.mul_le_mul_right C (show p + 1 ≤ q from hp)
    rw [Nat.succ_mul] at this
    unfold cnt; omega
  have hO := h.o
  rw [hl] at hO
  have hO1 : w1.ownsRow (w.heap.size + 1) 64 1 (.slice (some ⟨gO, 0, none⟩) (q + 1) cO) (q + 1) xs := own_kept2 hO (own_ne2 hO (h.e q hqx) (by decide)) gr
  have hnb : ∀ {v : Value} {n : Nat} {ys : List Value}, w1.ownsRow (w.heap.size + 1) 3 1 v n ys → v.ownBlock ≠ some gO := fun hv e1 => by
    rcases own_ne2 hv hO1 (by decide) with h1 | h1
    · rw [h1] at e1; cases e1
    · exact h1 (by rw [e1]; rfl)
  have hgO := (hO1.lt gO rfl).1
  have hold : ∀ p (hp : p < xs.length), p ≠ q → w1.ownsRow (w.heap.size + 1) 3 1 xs[p] (cnt C k p) (ints l (p * C) (cnt C k p)) := fun p hp hpq => own_kept2 (h.e p hp) (h.d p q hp hqx hpq) gr
  have hfr : ∀ p (hp : p < xs.length), xs[p].ownBlock ≠ some (wr.heap.size + 1) := fun p hp e1 => by have := ((h.e p hp).lt _ e1).2; omega
  refine ⟨?_, fun p hp => ?_, fun p r hp hr hpr => ?_, ?_, ?_⟩
  · have := own_set1 hO1 (show q < q + 1 by omega) v1
    rw [List.length_set, hl]
    exact this
  · have hp' : p < xs.length := by simpa using hp
    by_cases e1 : p = q
    · subst e1
      rw [List.getElem_set_self, hcq]
      exact ownsRow_setCell_other ow (hnb ow) _
    · rw [List.getElem_set_ne (fun e2 => e1 e2.symm), hcp p (by omega)]
      exact ownsRow_setCell_other (hold p hp' e1) (hnb (hold p hp' e1)) _
  · have hp' : p < xs.length := by simpa using hp
    have hr' : r < xs.length := by simpa using hr
    by_cases e1 : p = q
    · subst e1
      rw [List.getElem_set_self, List.getElem_set_ne hpr]
      rcases at1 with e2 | e2
      · rw [e2]; exact h.d p r hp' hr' hpr
      · right; rw [e2]; exact (hfr r hr').symm
    · rw [List.getElem_set_ne (fun e2 => e1 e2.symm)]
      by_cases e3 : r = q
      · subst e3
        rw [List.getElem_set_self]
        rcases at1 with e2 | e2
        · rw [e2]; exact h.d p r hp' hr' hpr
        · right; rw [e2]; exact hfr p hp'
      · rw [List.getElem_set_ne (fun e2 => e3 e2.symm)]
        exact h.d p r hp' hr' hpr
  · exact (row_grown (h.r0.alloc _) ((h.e q hqx).alloc _) gr (by decide)).setOther (a := ⟨gO, q, none⟩) (by show w.heap.size ≠ gO; omega) _
  · have hb := h.b.alloc h.b.size ob
    exact bl_set (hb.grown gr (by have := h.b.size; simp; omega) (fun q' hq => by have := ((h.e q hqx).lt q' hq).1; omega)) (by omega) _
end Go.Proofs.Ytlilldgconlchaa
/- heddleref13: Spread refuses; what lay lays is what Spread asks for: plain mathematics. -/
namespace Go.Proofs.Ytlilldgconlchaa
open Go.RowKit Go.Shelf

/-- Weights l, C to a place. -/
def vl (l : List Int) (C : Nat) (p k : Nat) : Int := ia l (p * C + k)
theorem layS_sp {C P n : Nat} (hC : 0 < C) (l : List Int) (hn : P * (64 * nw C) = n) : bn (layS C (64 * nw C) (vl l C)) n = spN l C P := by
  refine Nat.eq_of_testBit_eq fun j => ?_
  rw [bn_bit, spN_bit hC, hn]
  rfl
theorem layM_sp {C P n : Nat} (hC : 0 < C) (l : List Int) (hn : P * (64 * nw C) = n) : bn (layM C (64 * nw C) (vl l C)) n = spN (nzl l) C P := by
  refine Nat.eq_of_testBit_eq fun j => ?_
  rw [bn_bit, spN_bit hC, hn, nzl_at]
  unfold layM vl
  by_cases e : ia l (j / (64 * nw C) * C + j % (64 * nw C)) = 0 <;> simp [e]
set_option maxRecDepth 100000 in
theorem rside_yes (C : Nat) (h : 1 ≤ C ∧ C ≤ 4096) (w : World) :
    Calls Try.prog 58 #[.int .i64 C] w fun e w' => e = .returned (.bool true) ∧ w' = w := by
  have i1 : (1 : Int) ≤ (C : Int) := by omega
  have i2 : (C : Int) ≤ 4096 := by omega
  go_enter Try.func58, Try.ntmps58
  go_wp2_with fail
  go_ret
  exact ⟨rfl, rfl⟩
set_option maxRecDepth 100000 in
theorem rside_no (c : Int) (h : c < 1 ∨ 4096 < c) (w : World) :
    Calls Try.prog 58 #[.int .i64 c] w fun e w' => e = .returned (.bool false) ∧ w' = w := by
  by_cases h1 : (1 : Int) ≤ c
  · have i2 : ¬ c ≤ 4096 := by omega
    go_enter Try.func58, Try.ntmps58
    go_wp2_with fail
    go_ret
    exact ⟨rfl, rfl⟩
  · go_enter Try.func58, Try.ntmps58
    go_wp2_with fail
    go_ret
    exact ⟨rfl, rfl⟩
set_option maxHeartbeats 1600000 in
set_option maxRecDepth 100000 in
theorem rspread_arg (c : Int) (n cap : Nat) (ao : Option Addr) (w : World) (hc : c < 1 ∨ 4096 < c) :
    Calls Try.prog 28 #[.int .i64 c, .slice ao n cap] w fun e w' => e = .returned (.tuple #[rwv ⟨0, none, 0, 0, 0⟩ ⟨0, none, 0, 0, 0⟩, .int .i64 1]) ∧ Below w.heap.size w w' := by
  have HS := hid1 (rside_no c hc)
  rcases hc with hc | hc
  · go_enter Try.func28, Try.ntmps28
    go_wp2_with (go_at_call 58; refine (HS.out _).mono ?_; rintro e y1 ⟨rfl, rfl⟩)
    exact bodyPost_ret (v := .tuple #[rwv ⟨0, none, 0, 0, 0⟩ ⟨0, none, 0, 0, 0⟩, .int .i64 1]) (by simp [results, Try.results28, go_sem]) rfl ⟨rfl, bl_alloc (Below.refl _ _) _⟩
  · have hc1 : ¬ c < 1 := by omega
    go_enter Try.func28, Try.ntmps28
    go_wp2_with (go_at_call 58; refine (HS.out _).mono ?_; rintro e y1 ⟨rfl, rfl⟩)
    exact bodyPost_ret (v := .tuple #[rwv ⟨0, none, 0, 0, 0⟩ ⟨0, none, 0, 0, 0⟩, .int .i64 1]) (by simp [results, Try.results28, go_sem]) rfl ⟨rfl, bl_alloc (Below.refl _ _) _⟩
set_option maxHeartbeats 1600000 in
set_option maxRecDepth 100000 in
theorem rspread_fit (C n cap : Nat) (ao : Option Addr) (w : World) (hC : 1 ≤ C ∧ C ≤ 4096) (hn : n ≤ 9223372036854775807) (h : n = 0 ∨ n % C ≠ 0) :
    Calls Try.prog 28 #[.int .i64 C, .slice ao n cap] w fun e w' => e = .returned (.tuple #[rwv ⟨0, none, 0, 0, 0⟩ ⟨0, none, 0, 0, 0⟩, .int .i64 32]) ∧ Below w.heap.size w w' := by
  have HS := hid1 (rside_yes C hC)
  have iC1 : ¬ (C : Int) < 1 := by omega
  have iC2 : ¬ (4096 : Int) < (C : Int) := by omega
  have iC0 : ¬ (C : Int) = 0 := by omega
  have iC0' : ¬ C = 0 := by omega
  by_cases h0 : n = 0
  · subst h0
    go_enter Try.func28, Try.ntmps28
    go_wp2_with (go_at_call 58; refine (HS.out _).mono ?_; rintro e y1 ⟨rfl, rfl⟩)
    exact bodyPost_ret (v := .tuple #[rwv ⟨0, none, 0, 0, 0⟩ ⟨0, none, 0, 0, 0⟩, .int .i64 32]) (by simp [results, Try.results28, go_sem]) rfl ⟨rfl, bl_alloc (Below.refl _ _) _⟩
  · have hr : n % C ≠ 0 := by rcases h with h | h; exact absurd h h0; exact h
    obtain ⟨q, hq⟩ : ∃ q, n % C = q := ⟨_, rfl⟩
    rw [hq] at hr
    have ir : (n : Int) % (C : Int) = (q : Int) := by rw [← hq]; simp
    have irt : (n : Int).tmod (C : Int) = (q : Int) := by rw [Int.tmod_eq_emod_of_nonneg (by omega)]; exact ir
    have iq : decide ((q : Int) = 0) = false := by simpa using hr
    have iq4 : ((q : Int) != 0) = true := by simpa using hr
    have in0 : ¬ (n : Int) = 0 := by omega
    have hqC : q < C := by rw [← hq]; exact Nat.mod_lt _ (by omega)
    have wq : IntKind.i64.wrap (q : Int) = (q : Int) := by rw [IntKind.wrap_i64]; omega
    clear hq h
    go_enter Try.func28, Try.ntmps28
    go_wp2_with (go_at_call 58; refine (HS.out _).mono ?_; rintro e y1 ⟨rfl, rfl⟩)
    exact bodyPost_ret (v := .tuple #[rwv ⟨0, none, 0, 0, 0⟩ ⟨0, none, 0, 0, 0⟩, .int .i64 32]) (by simp [results, Try.results28, go_sem]) rfl ⟨rfl, bl_alloc (Below.refl _ _) _⟩
set_option maxHeartbeats 1600000 in
set_option maxRecDepth 100000 in
theorem rspread_long (C P n cap : Nat) (ao : Option Addr) (w : World) (hC : 1 ≤ C ∧ C ≤ 4096) (hP : 1 ≤ P) (hn : P * C = n) (hnb : n ≤ 140737488351232) (hM : 262144 < P * nw C) :
    Calls Try.prog 28 #[.int .i64 C, .slice ao n cap] w fun e w' => e = .returned (.tuple #[rwv ⟨0, none, 0, 0, 0⟩ ⟨0, none, 0, 0, 0⟩, .int .i64 2]) ∧ Below w.heap.size w w' := by
  have hd1 : nw C ≤ 64 := by unfold nw; omega
  have hn0 : 0 < n := by rw [← hn]; exact Nat.mul_pos hP hC.1
  have hPb : P ≤ 140737488351232 := Nat.le_trans (Nat.le_mul_of_pos_right P hC.1) (by rw [hn]; exact hnb)
  obtain ⟨M, eM⟩ : ∃ M, P * nw C = M := ⟨_, rfl⟩
  have hMb : M ≤ 9007199254478848 := by rw [← eM]; exact Nat.mul_le_mul hPb hd1
  have HW := hid1 (rplaces_any C (by omega))
  rw [eM] at hM
  have iq : (n : Int) / (C : Int) = (P : Int) := by rw [← hn]; push_cast; exact Int.mul_ediv_cancel _ (by omega)
  have ir : (n : Int) % (C : Int) = 0 := by rw [← hn]; push_cast; exact Int.mul_emod_left _ _
  have irt : (n : Int).tmod (C : Int) = 0 := by rw [Int.tmod_eq_emod_of_nonneg (by omega)]; exact ir
  have iM : (P : Int) * (nw C : Int) = (M : Int) := by rw [← eM]; push_cast; rfl
  have wP : IntKind.i64.wrap (P : Int) = (P : Int) := by rw [IntKind.wrap_i64]; omega
  have wM : IntKind.i64.wrap (M : Int) = (M : Int) := by rw [IntKind.wrap_i64]; omega
  have wM64 : IntKind.i64.wrap ((M : Int) * 64) = (M : Int) * 64 := by rw [IntKind.wrap_i64]; omega
  have HS := hid1 (rside_yes C hC)
  have iC1 : ¬ (C : Int) < 1 := by omega
  have iC2 : ¬ (4096 : Int) < (C : Int) := by omega
  have iC0 : ¬ (C : Int) = 0 := by omega
  have iC0' : ¬ C = 0 := by omega
  have in0 : ¬ (n : Int) = 0 := by omega
  have in0' : ¬ n = 0 := by omega
  have i64m : (16777216 : Int) < (M : Int) * 64 := by omega
  have wP64 : IntKind.i64.wrap ((P : Int) * 64) = (P : Int) * 64 := by rw [IntKind.wrap_i64]; omega
  have iPM : (P : Int) * 64 * (nw C : Int) = (M : Int) * 64 := by rw [Int.mul_right_comm, iM]
  clear hn eM
  go_enter Try.func28, Try.ntmps28
  go_wp2_with (go_at_call 58; refine (HS.out _).mono ?_; rintro e y1 ⟨rfl, rfl⟩)
  go_quiet ((go_at_call 59; exact Calls.quiet_of_same (HW.out _)))
  go_wp2_with fail
  exact bodyPost_ret (v := .tuple #[rwv ⟨0, none, 0, 0, 0⟩ ⟨0, none, 0, 0, 0⟩, .int .i64 2]) (by simp [results, Try.results28, go_sem]) rfl ⟨rfl, by (repeat (refine bl_set ?_ (Nat.le_refl _) _)); exact bl_drewN (bl_alloc (Below.refl _ _) _) _⟩
end Go.Proofs.Ytlilldgconlchaa
/- heddleref13: Spread's appends; its lists are what lay reads. -/
namespace Go.Proofs.Ytlilldgconlchaa
open Go.RowKit Go.Shelf

/-- A list more. -/
theorem appL {ops : Array Oper} {rest : List Oper} {o : Oper} {a : Act} {Q : Exit → Act → World → Prop} {w : World} (hgd : o.guard = none) (s x : Operand)
    (ho : o.op = .call { callee := .builtin .append, args := #[s, x], argTypes := #[115, 115] }) (base : Nat) (v : Value) (xs : List Value) (hs : a.eval s = v) (hown : w.ownsRow base 64 1 v xs.length xs)
    (hx : a.eval x = .slice (some ⟨w.heap.size, 0, none⟩) 1 1) (hM : xs.length ≤ 16777216) (hb : base ≤ w.heap.size)
    (h : ∀ v' w', w'.ownsRow base 64 1 v' (xs ++ [Value.slice none 0 0]).length (xs ++ [Value.slice none 0 0]) → (w.alloc (.cells #[.slice none 0 0] 64)).grownBy w' v.ownBlock → wpList Try.prog ops Q rest (a.put o.dst v') w') :
    wpList Try.prog ops Q (o :: rest) a (w.alloc (.cells #[.slice none 0 0] 64)) := by
  obtain ⟨i0, hi, hz0, hz1, hz2⟩ := info_parts info_intsE
  refine wpList_append_own_at _ hgd s x _ ho base 64 i0 (.slice none 0 0) 1 24 und_intssE hi hz0 hz1 hz2 rfl (by decide) v xs.length xs hs (hown.alloc _) ⟨w.heap.size, 0, none⟩ 1 1 [.slice none 0 0] hx rfl
    (fun j u hu => ?_) (fun u hu => by simp at hu; subst hu; rfl) (by unfold maxLen; omega) (by omega) (by simp; omega) ?_
  · rcases j with _ | j
    · simp at hu; subst hu; simp [Addr.add, go_sem]
    · simp at hu
  · intro v' w' h1 h2 _ _
    exact h v' w' (by rw [List.length_append]; exact h1) h2
/-- A number more. -/
theorem appI {ops : Array Oper} {rest : List Oper} {o : Oper} {a : Act} {Q : Exit → Act → World → Prop} {w : World} (hgd : o.guard = none) (s x : Operand)
    (ho : o.op = .call { callee := .builtin .append, args := #[s, x], argTypes := #[64, 64] }) (base : Nat) (v : Value) (l : List Int) (b n : Nat) (hs : a.eval s = v) (hown : w.ownsRow base 3 1 v n (ints l b n))
    (y : Int) (hx : a.eval x = .slice (some ⟨w.heap.size, 0, none⟩) 1 1) (hM : n ≤ 16777216) (hb : base ≤ w.heap.size) (hy : y = ia l (b + n))
    (h : ∀ v' w', w'.ownsRow base 3 1 v' (n + 1) (ints l b (n + 1)) → (w.alloc (.cells #[.int .i64 y] 3)).grownBy w' v.ownBlock → (v'.ownBlock = v.ownBlock ∨ v'.ownBlock = some (w.heap.size + 1)) → wpList Try.prog ops Q rest (a.put o.dst v') w') :
    wpList Try.prog ops Q (o :: rest) a (w.alloc (.cells #[.int .i64 y] 3)) := by
  obtain ⟨i0, hi, hz0, hz1, hz2⟩ := info_parts info_intE
  refine wpList_append_own_at _ hgd s x _ ho base 3 i0 (.int .i64 0) 1 8 und_intsE hi hz0 hz1 hz2 rfl (by decide) v n (ints l b n) hs (hown.alloc _) ⟨w.heap.size, 0, none⟩ 1 1 [.int .i64 y] hx rfl
    (fun j u hu => ?_) (fun u hu => by simp at hu; subst hu; rfl) (by unfold maxLen; omega) (by omega) (by simp; omega) ?_
  · rcases j with _ | j
    · simp at hu; subst hu; simp [Addr.add, go_sem]
    · simp at hu
  · intro v' w' h1 h2 _ h3
    exact h v' w' (by rw [ints_snoc, ← hy]; exact h1) h2 (by simpa using h3)
/-- Full lists are what lay reads. -/
theorem Rl.ll {w wr : World} {u : Value} {xs : List Value} {l : List Int} {C P : Nat} (h : Rl w wr u xs l C (P * C)) (hC : 0 < C) (hl : xs.length = P) : ∃ ao ca, u = .slice ao P ca ∧ LL wr ao P C (vl l C) := by
  have ho := h.o
  rw [hl] at ho
  have hcn : ∀ p, p < P → cnt C (P * C) p = C := fun p hp => by
    have := Nat.mul_le_mul_right C (show p + 1 ≤ P from hp)
    rw [Nat.succ_mul] at this
    unfold cnt; omega
  rcases ho.2 with ⟨rfl, h0⟩ | ⟨g, cap, cur, rfl, _⟩
  · exact ⟨none, 0, by rw [h0], fun p hp => absurd hp (by omega)⟩
  · refine ⟨_, cap, rfl, fun p hp => ?_⟩
    have hp' : p < xs.length := by omega
    have he := h.e p hp'
    rw [hcn p hp] at he
    have hc := ho.cells (g := g) rfl p _ (List.getElem?_eq_getElem hp')
    rcases he.2 with ⟨_, h0⟩ | ⟨g', cap', cur', e', _⟩
    · omega
    · rw [e'] at hc he
      refine ⟨g, 0, some ⟨g', 0, none⟩, cap', rfl, by rcases p with _ | p <;> simpa [Addr.add] using hc, fun k hk => ⟨g', 0, rfl, ?_⟩⟩
      have hk' := he.cells (g := g') rfl k _ (ints_at (l := l) (a := p * C) hk)
      unfold vl
      rcases k with _ | k <;> simpa [Addr.add] using hk'
end Go.Proofs.Ytlilldgconlchaa
/- heddleref13: Spread walks. -/
namespace Go.Proofs.Ytlilldgconlchaa
open Go.RowKit Go.Shelf

attribute [local go_sem ↓] Go.wp_at_zero Go.wp_at_succ

theorem step_app13 {ops : Array Oper} {o : Oper} {a : Act} {w : World} {K : Act → World → Prop} {Q : Exit → Act → World → Prop} {E : Prop}
    (hg : o.guard = none) (s x : Operand) (hop : o.op = Op.call { callee := Callee.builtin Builtin.append, args := #[s, x], argTypes := #[64, 64] })
    (base : Nat) (v : Value) (l : List Int) (b n : Nat) (hs : a.eval s = v) (hown : w.ownsRow base 3 1 v n (ints l b n))
    (ad : Addr) (y : Int) (hx : a.eval x = .slice (some ad) 1 1) (hc : w.cell? ad = some (.int .i64 y)) (hM : n ≤ 16777216) (hb : base ≤ w.heap.size) (hy : y = ia l (b + n))
    (hK : ∀ v' w', w'.ownsRow base 3 1 v' (n + 1) (ints l b (n + 1)) → w.grownBy w' v.ownBlock → (v'.ownBlock = v.ownBlock ∨ v'.ownBlock = some w.heap.size) → K (a.put o.dst v') w') :
    if Region.wanted o (yielded ops a.tmps) = true then Oper.wp Try.prog o a w K Q else E := by
  have hw : Region.wanted o (yielded ops a.tmps) = true := by simp [Region.wanted, hg]
  rw [if_pos hw]
  obtain ⟨i0, hi, hz0, hz1, hz2⟩ := info_parts info_intE
  obtain ⟨v', w', hr, h2, h3, h4, h5⟩ := run_append_own_at (P := Try.prog) w base 64 o.type 3 i0 (.int .i64 0) 1 8 und_intsE hi hz0 hz1 hz2 rfl (by decide) v n (ints l b n) hown ad 1 1 [.int .i64 y] rfl
    (fun j u hu => by
      rcases j with _ | j
      · simp at hu; subst hu; exact hc
      · simp at hu) (fun u hu => by simp at hu; subst hu; rfl) (by unfold maxLen; omega) (by omega) hb
  unfold Oper.wp execOp
  simp only [hop, resolve, invoke, builtin, Sem.run_bind, Sem.run_pure, Result.andThen_ok, List.map_toArray, List.map_cons, List.map_nil, hs, hx, hr]
  exact hK _ _ (by rw [ints_snoc, ← hy]; exact h2) h3 h5
theorem meet_of13 {J K : Act → World → Prop} {Q : Exit → Act → World → Prop} {a : Act} {w : World} (hK : ∀ a' w', Met J a' w' → K a' w') (h : Met J a w) : Exit.then K Q Exit.normal a w := hK _ _ h
theorem Rl.form {w wr : World} {u : Value} {xs : List Value} {l : List Int} {C k : Nat} (h : Rl w wr u xs l C k) (h0 : 0 < xs.length) : ∃ gO cO, u = .slice (some ⟨gO, 0, none⟩) xs.length cO ∧ gO < wr.heap.size := by
  obtain ⟨g, c, f, e, hb, h4, h5, hrow, hf⟩ := own_row h.o h0
  exact ⟨g, c, e, hrow.lt⟩
theorem own_form13 {w : World} {base : Nat} {e : TypeId} {size : Nat} {v : Value} {n : Nat} {xs : List Value} (h : w.ownsRow base e size v n xs) : ∃ ao cp, v = .slice ao n cp := by
  rcases h.2 with ⟨rfl, rfl⟩ | ⟨g, cap, cur, rfl, _⟩
  · exact ⟨none, 0, rfl⟩
  · exact ⟨_, cap, rfl⟩
theorem Rl.drew {w wr : World} {u : Value} {xs : List Value} {l : List Int} {C k : Nat} (h : Rl w wr u xs l C k) : Rl w wr.drew u xs l C k := ⟨h.o, h.e, h.d, h.r0, h.b.drew⟩
set_option maxHeartbeats 3200000 in
set_option maxRecDepth 100000 in
theorem rspread_walk (C P n K0 g o cap : Nat) (l : List Int) (hl : l.length = n) (w : World) (hC : 1 ≤ C ∧ C ≤ 4096) (hP : 1 ≤ P) (hn : P * C = n) (hM : P * nw C ≤ 262144) (hK0 : K0 ≤ n) (good : ∀ k, k < K0 → -1 ≤ ia l k ∧ ia l k ≤ 1) (stop : K0 < n → ¬ (-1 ≤ ia l K0 ∧ ia l K0 ≤ 1)) (rd : R8 w (some ⟨g, o, none⟩) l) :
    Calls Try.prog 28 #[.int .i64 C, .slice (some ⟨g, o, none⟩) n cap] w fun e w' => ((K0 = n ∧ ∃ bo1 c1 bo2 c2, e = .returned (.tuple #[rwv ⟨P * (64 * nw C), bo1, P * nw C, c1, 0⟩ ⟨P * (64 * nw C), bo2, P * nw C, c2, 0⟩, .int .i64 0]) ∧ w'.ownsRow w.heap.size 48 1 (.slice bo1 (P * nw C) c1) (P * nw C) (wl (spN l C P) (P * nw C)) ∧ w'.ownsRow w.heap.size 48 1 (.slice bo2 (P * nw C) c2) (P * nw C) (wl (spN (nzl l) C P) (P * nw C))) ∨
      (K0 < n ∧ e = .returned (.tuple #[rwv ⟨0, none, 0, 0, 0⟩ ⟨0, none, 0, 0, 0⟩, .int .i64 52]))) ∧ Below w.heap.size w w' := by
  have hd1 : nw C ≤ 64 := by unfold nw; omega
  have hd0 : 1 ≤ nw C := by unfold nw; omega
  have hn0 : 0 < n := by rw [← hn]; exact Nat.mul_pos hP hC.1
  have hPb : P ≤ 262144 := Nat.le_trans (Nat.le_mul_of_pos_right P hd0) hM
  have hnb : n ≤ 1073741824 := by rw [← hn]; exact Nat.mul_le_mul hPb hC.2
  obtain ⟨M, eM⟩ : ∃ M, P * nw C = M := ⟨_, rfl⟩
  have HW := hid1 (rplaces_any C (by omega))
  have HS := hid1 (rside_yes C hC)
  have RD := hid1 rd
  have HL := hid1 hl
  have HG := hid1 good
  have HSP := hid1 stop
  have HN := hid1 hn
  rw [eM] at hM ⊢
  have iq : (n : Int) / (C : Int) = (P : Int) := by rw [← hn]; push_cast; exact Int.mul_ediv_cancel _ (by omega)
  have ir : (n : Int) % (C : Int) = 0 := by rw [← hn]; push_cast; exact Int.mul_emod_left _ _
  have irt : (n : Int).tmod (C : Int) = 0 := by rw [Int.tmod_eq_emod_of_nonneg (by omega)]; exact ir
  have iM : (P : Int) * (nw C : Int) = (M : Int) := by rw [← eM]; push_cast; rfl
  have wP : IntKind.i64.wrap (P : Int) = (P : Int) := by rw [IntKind.wrap_i64]; omega
  have wM64 : IntKind.i64.wrap ((M : Int) * 64) = (M : Int) * 64 := by rw [IntKind.wrap_i64]; omega
  have wP64 : IntKind.i64.wrap ((P : Int) * 64) = (P : Int) * 64 := by rw [IntKind.wrap_i64]; omega
  have iPM : (P : Int) * 64 * (nw C : Int) = (M : Int) * 64 := by rw [Int.mul_right_comm, iM]
  have iC1 : ¬ (C : Int) < 1 := by omega
  have iC2 : ¬ (4096 : Int) < (C : Int) := by omega
  have iC0 : ¬ (C : Int) = 0 := by omega
  have iC0' : ¬ C = 0 := by omega
  have in0 : ¬ (n : Int) = 0 := by omega
  have in0' : ¬ n = 0 := by omega
  have in0b : ((n : Int) == 0) = false := by simp; omega
  have i64m : ¬ (16777216 : Int) < (M : Int) * 64 := by omega
  clear rd hl good stop hn
  go_enter Try.func28, Try.ntmps28
  go_wp2_with (go_at_call 58; refine (HS.out _).mono ?_; rintro e y1 ⟨rfl, rfl⟩)
  go_quiet ((go_at_call 59; exact Calls.quiet_of_same (HW.out _)))
  go_wp2_with fail
  go_loopw [7, 8] (fun a i wr => ∃ (u : Value) (xs : List Value) (k : Nat), k ≤ K0 ∧ a = u ∧ i = .int .i64 k ∧ xs.length = (k + (C - 1)) / C ∧ Rl w wr u xs l C k) (fun _ x _ => n - (intOf x).toNat)
  case atStart => exact ⟨_, [], 0, Nat.zero_le _, rfl, rfl, by rw [Nat.zero_add, List.length_nil, Nat.div_eq_of_lt (by omega)], ⟨World.ownsRow_nil _ _ _ _, fun p hp => absurd hp (by simp), fun p q hp => absurd hp (by simp), row_drewN (q_new w ⟨0, none, 0, 0, 0⟩ ⟨0, none, 0, 0, 0⟩ _) _, bl_drewN (bl_alloc (Below.refl _ _) _) _⟩⟩
  case round =>
    obtain ⟨u, xs, k, hk, ea, rfl, hxl, rl⟩ := hrel
    replace ea := ea.symm
    subst ea
    have ik0 : (0 : Int) ≤ (k : Int) := by omega
    by_cases hlt : k < n
    · have ik : (k : Int) < (n : Int) := by omega
      obtain ⟨ga, oa, ea, c8⟩ := RD.out k (by rw [HL.out]; exact hlt)
      cases ea
      have HC0 := hid1 c8
      replace c8 := keepc rl.b c8
      by_cases hg : k < K0
      · obtain ⟨w1, w2⟩ := HG.out k hg
        obtain ⟨z, ez⟩ : ∃ z, ia l k = z := ⟨_, rfl⟩
        rw [ez] at w1 w2 c8
        have w1' : ¬ z < -1 := by omega
        have w2' : ¬ 1 < z := by omega
        obtain ⟨cc, ecc⟩ : ∃ cc, k % C = cc := ⟨_, rfl⟩
        have icc : (k : Int) % (C : Int) = (cc : Int) := by rw [← ecc]; simp
        have icct : (k : Int).tmod (C : Int) = (cc : Int) := by rw [Int.tmod_eq_emod_of_nonneg (by omega)]; exact icc
        have hccC : cc < C := by rw [← ecc]; exact Nat.mod_lt _ (by omega)
        have v2 : IntKind.i64.wrap (cc : Int) = (cc : Int) := by rw [IntKind.wrap_i64]; omega
        have HRL := hid1 rl
        clear rl
        have HXL := hid1 hxl
        have HCC := hid1 ecc
        have EZ := hid1 ez
        clear hxl ecc ez
        go_upto_if 57 with fail
        go_cut [7] from 54 to 60 (fun a wx => ∃ (gO cO q : Nat) (xs : List Value), a = .slice (some ⟨gO, 0, none⟩) (q + 1) cO ∧ xs.length = q + 1 ∧ q * C ≤ k ∧ k < (q + 1) * C ∧ Rl w wx a xs l C k)
        case first =>
          have hdm : C * (k / C) + cc = k := by have := Nat.div_add_mod k C; rw [HCC.out] at this; exact this
          have hxb : xs.length ≤ 262144 := by
            rw [HXL.out]
            have : (k + (C - 1)) / C < P + 1 := by rw [Nat.div_lt_iff_lt_mul (by omega), Nat.succ_mul, HN.out]; omega
            omega
          by_cases hc0 : cc = 0
          · have icz : (cc : Int) = 0 := by omega
            have hq : xs.length * C = k := by
              have e1 : k + (C - 1) = C * (k / C) + (C - 1) := by omega
              rw [HXL.out, e1, Nat.mul_add_div (by omega), Nat.div_eq_of_lt (show C - 1 < C by omega), Nat.add_zero, Nat.mul_comm]
              omega
            have hsz := HRL.out.b.size
            have hsr := HRL.out.r0.lt
            go_wp2_with (at_builtin; refine appL rfl _ _ rfl (w.heap.size + 1) u xs (by go_simp) HRL.out.o (by go_simp) (by omega) (by omega) ?_; intro v1 w1 ow1 gr1)
            have RL1 := HRL.out.nil hq ow1 gr1
            obtain ⟨gO, cO, rfl, _⟩ := RL1.form (by simp)
            have hlen : (xs ++ [Value.slice none 0 0]).length = xs.length + 1 := by simp
            rw [hlen]
            go_meet
            exact ⟨gO, cO, xs.length, xs ++ [Value.slice none 0 0], rfl, hlen, by omega, by rw [Nat.succ_mul]; omega, hlen ▸ RL1⟩
          · have icn : ¬ (cc : Int) = 0 := by omega
            have hq : xs.length = k / C + 1 := by
              have hcc1 : 1 ≤ cc := by omega
              have e1 : k + (C - 1) = C * (k / C + 1) + (cc - 1) := by rw [Nat.mul_add, Nat.mul_one]; omega
              rw [HXL.out, e1, Nat.mul_add_div (by omega), Nat.div_eq_of_lt (show cc - 1 < C by omega), Nat.add_zero]
            obtain ⟨gO, cO, rfl, _⟩ := HRL.out.form (by rw [hq]; exact Nat.succ_pos _)
            rw [hq]
            go_wp2_with fail
            go_meet
            exact ⟨gO, cO, k / C, xs, rfl, hq, by rw [Nat.mul_comm]; have := hdm; omega, by rw [Nat.succ_mul, Nat.mul_comm (k / C)]; omega, hq ▸ HRL.out⟩
        case rest =>
          clear HRL HXL c8
          obtain ⟨gO, cO, q, ys, rfl, hyl, q1, q2, rl⟩ := hcut
          rename World => W
          have hqy : q < ys.length := by omega
          obtain ⟨v, ev⟩ : ∃ v, ys[q] = v := ⟨_, rfl⟩
          obtain ⟨m, em⟩ : ∃ m, cnt C k q = m := ⟨_, rfl⟩
          have he := rl.e q hqy
          have ho := rl.o
          rw [ev, em] at he
          rw [hyl] at ho
          have hmC : m ≤ C := by rw [← em]; exact Nat.min_le_left _ _
          have hkm : q * C + m = k := by
            rw [← em]; unfold cnt
            rw [Nat.succ_mul] at q2
            omega
          have cq := ho.cells (g := gO) rfl q _ (by rw [List.getElem?_eq_getElem hqy, ev])
          replace cq : W.cell? ⟨gO, q, none⟩ = some v := by rcases q with _ | q <;> simpa [Addr.add] using cq
          have gl := lt_of_cell cq
          have c8 := keepc rl.b HC0.out
          rw [EZ.out] at c8
          have gl8 := lt_of_cell c8
          have hqk : q ≤ k := Nat.le_trans (Nat.le_mul_of_pos_right q (by omega)) q1
          have iq0 : (0 : Int) ≤ (q : Int) := by omega
          have iq1 : (q : Int) < (q : Int) + 1 := by omega
          have wq1 : IntKind.i64.wrap (q : Int) = (q : Int) := by rw [IntKind.wrap_i64]; omega
          have wz : IntKind.i64.wrap z = z := by rw [IntKind.wrap_i64]; omega
          have hsz := rl.b.size
          have hsr := rl.r0.lt
          obtain ⟨va, vc, rfl⟩ := own_form13 he
          have OW : Hid (∀ X, Below W.heap.size W X → X.ownsRow (w.heap.size + 1) 3 1 (.slice va m vc) m (ints l (q * C) m)) := fun X hX => own_keep he hX
          have YZ : Hid (z = ia l (q * C + m)) := hid1 (by rw [hkm, EZ.out])
          have RL := hid1 rl
          have LS : Hid (∀ X Y, Below W.heap.size W X → X.grownBy Y (Value.slice va m vc).ownBlock → Y.frozen? ⟨gO, q, none⟩ = false ∧ gO < Y.heap.size ∧ Y.cell? ⟨gO, q, none⟩ = some (.slice va m vc)) := fun X Y hX gr => by
            have h1 := (own_keep ho hX).kept gr (by
              rcases own_ne2 ho he (by decide) with h | h
              · rw [h]; exact .inl rfl
              · right; exact h)
            obtain ⟨g', c', f, e1, _, _, _, hrow, hf⟩ := own_row h1 (by omega)
            cases e1
            refine ⟨hrow.frozen q, hrow.lt, ?_⟩
            have := h1.cells (g := gO) rfl q _ (by rw [List.getElem?_eq_getElem hqy, ev])
            rcases q with _ | q <;> simpa [Addr.add] using this
          have HYL := hid1 hyl
          have HEV := hid1 ev
          have HEM := hid1 em
          have HQ1 := hid1 q1
          have HQ2 := hid1 q2
          clear rl he ho hkm em ev hyl q1 q2 HCC HC0 EZ
          go_upto_region 16 with fail
          go_region_law ((refine step_app13 rfl (.tmp 70) (.tmp 76) rfl (w.heap.size + 1) (.slice va m vc) l (q * C) m (by go_simp) (OW.out _ (by repeat (first | (with_reducible exact Below.refl _ _) | (with_reducible assumption) | (with_reducible refine Below.drew ?_) | (with_reducible refine bl_alloc ?_ _) | (with_reducible refine bl_drewN ?_ _)))) ⟨W.heap.size, 0, none⟩ z (by go_simp) (by simp [go_sem]) (by omega) (by simp; omega) YZ.out ?_; intro v3 y3 hown3 hgrow3 hat3; obtain ⟨zo, zcp, rfl⟩ := own_form13 hown3; obtain ⟨zf, zl, zc⟩ := LS.out _ y3 (by repeat (first | (with_reducible exact Below.refl _ _) | (with_reducible assumption) | (with_reducible refine Below.drew ?_) | (with_reducible refine bl_alloc ?_ _) | (with_reducible refine bl_drewN ?_ _))) hgrow3; have Z1 := hid1 hown3; have Z2 := hid1 hgrow3; have Z3 := hid1 hat3; clear hown3 hgrow3 hat3))
          all_goals
            have RF : Hid (Rl w (y3.setCell ⟨gO, q, none⟩ (.slice zo (m + 1) zcp)) (.slice (some ⟨gO, 0, none⟩) (q + 1) cO) (ys.set q (.slice zo (m + 1) zcp)) l C (k + 1)) := by
              refine hid1 (Rl.push (wr := W.drew) HYL.out RL.out.drew HQ1.out HQ2.out (by rw [HEM.out]; exact Z1.out) (by rw [HEV.out]; exact Z2.out) (by rw [HEV.out]; exact Z3.out.imp_right fun h => h.trans (by simp)))
            clear Z1 Z2 Z3 RL LS OW
            go_wp2_with fail
            refine ⟨⟨_, _, k + 1, by omega, rfl, by go_num, ?_, RF.out⟩, by simp [intOf]; omega⟩
            rw [List.length_set, HYL.out, show k + 1 + (C - 1) = k + C by omega, Nat.add_div_right _ (by omega), Nat.div_eq_of_lt_le HQ1.out HQ2.out]
      · obtain rfl : k = K0 := by omega
        have hsp := HSP.out hlt
        obtain ⟨z, ez⟩ : ∃ z, ia l k = z := ⟨_, rfl⟩
        rw [ez] at hsp c8
        have b0 := rl.r0
        have BR := rl.b
        have f0 := b0.frozen 0
        have f1 := b0.frozen 1
        have f2 := b0.frozen 2
        have f3 := b0.frozen 3
        have d0 := q0 b0
        have d1 := q1 b0
        have d2 := q2 b0
        have d3 := q3 b0
        clear rl ez
        by_cases hz : z < -1
        · go_wp2_with fail
          exact bodyPost_ret (v := .tuple #[rwv ⟨0, none, 0, 0, 0⟩ ⟨0, none, 0, 0, 0⟩, .int .i64 52]) (by simp [results, Try.results28, go_sem, d0, d1, d2, d3]) rfl ⟨.inr rfl, bl_set (bl_set (bl_set (bl_set BR (Nat.le_refl _) _) (Nat.le_refl _) _) (Nat.le_refl _) _) (Nat.le_refl _) _⟩
        · have hz2 : 1 < z := by omega
          go_wp2_with fail
          exact bodyPost_ret (v := .tuple #[rwv ⟨0, none, 0, 0, 0⟩ ⟨0, none, 0, 0, 0⟩, .int .i64 52]) (by simp [results, Try.results28, go_sem, d0, d1, d2, d3]) rfl ⟨.inr rfl, bl_set (bl_set (bl_set (bl_set BR (Nat.le_refl _) _) (Nat.le_refl _) _) (Nat.le_refl _) _) (Nat.le_refl _) _⟩
    · obtain rfl : k = K0 := by omega
      obtain rfl : k = n := by omega
      have hxP : xs.length = P := by
        rw [hxl, ← HN.out]
        rw [Nat.mul_comm, Nat.mul_add_div (by omega), Nat.div_eq_of_lt (show C - 1 < C by omega)]; omega
      rw [← HN.out] at rl
      obtain ⟨ao, ca, rfl, ll⟩ := rl.ll (by omega) hxP
      have r0 := rl.r0
      have BB := rl.b
      have en : nw (P * (64 * nw C)) = M := by rw [← eM]; rw [Nat.mul_left_comm]; unfold nw; omega
      have hN2 : P * (64 * nw C) ≤ 16777216 := by rw [Nat.mul_left_comm, eM]; omega
      have HLY := hid1 (rlay_any P C _ (vl l C) ao ca wr hC rfl hN2 ll)
      rw [layS_sp hC.1 l rfl, layM_sp hC.1 l rfl, en] at HLY
      have s0 := BB.size
      have s0' := r0.lt
      clear rl ll hxl
      go_wp2_with fail
      refine HLY.out.mono ?_
      rintro e w1 ⟨d1, k1, d2, k2, rfl, ow1, ow2, hb1⟩
      replace r0 := keepr hb1 r0
      have B1 := bl_step BB hb1
      clear hb1 HLY
      have e0 := q0 r0
      have e1 := q1 r0
      have e2 := q2 r0
      have e3 := q3 r0
      have t0 := r0.frozen 0
      have t1 := r0.frozen 1
      have t2 := r0.frozen 2
      have t3 := r0.frozen 3
      have HO1 := hid1 ow1
      have HO2 := hid1 ow2
      clear ow1 ow2
      go_wp2_with fail
      have put : ∀ {W : World} {x : Value} {N m : Nat} (k : Nat) (u : Value), W.ownsRow (w.heap.size + 1) 48 1 x m (wl N m) → (W.setCell ⟨w.heap.size, k, none⟩ u).ownsRow (w.heap.size + 1) 48 1 x m (wl N m) := fun k u h => ownsRow_setCell_below h (by show w.heap.size < w.heap.size + 1; omega) _
      have o1 := own_mono HO1.out (show w.heap.size + 1 ≤ wr.heap.size by omega)
      have o2 := own_mono HO2.out (show w.heap.size + 1 ≤ wr.heap.size by omega)
      exact bodyPost_ret (v := .tuple #[rwv ⟨P * (64 * nw C), d1, M, k1, 0⟩ ⟨P * (64 * nw C), d2, M, k2, 0⟩, .int .i64 0]) (by simp [results, Try.results28, go_sem, e0, e1, e2, e3]) rfl ⟨⟨d1, k1, d2, k2, rfl, own_mono (put 3 _ (put 2 _ (put 1 _ (put 0 _ o1)))) (by omega), own_mono (put 3 _ (put 2 _ (put 1 _ (put 0 _ o2)))) (by omega)⟩, bl_set (bl_set (bl_set (bl_set B1 (Nat.le_refl _) _) (Nat.le_refl _) _) (Nat.le_refl _) _) (Nat.le_refl _) _⟩
end Go.Proofs.Ytlilldgconlchaa
/- PACKAGE patch: Spread refuses. -/
namespace Go.Proofs.Ytlilldgconlchaa
open Go.RowKit Go.Shelf

set_option maxHeartbeats 1600000 in
set_option maxRecDepth 100000 in
theorem spread_arg (c : Int) (n cap : Nat) (ao : Option Addr) (w : World) (hc : c < 1 ∨ 4096 < c) :
    Calls Try.prog 16 #[.int .i64 c, .slice ao n cap] w fun e w' => e = .returned (.tuple #[rwv ⟨0, none, 0, 0, 0⟩ ⟨0, none, 0, 0, 0⟩, .int .i64 1]) ∧ Below w.heap.size w w' := by
  rcases hc with hc | hc
  · go_enter Try.func16, Try.ntmps16
    go_wp2_with fail
    exact bodyPost_ret (v := .tuple #[rwv ⟨0, none, 0, 0, 0⟩ ⟨0, none, 0, 0, 0⟩, .int .i64 1]) (by simp [results, Try.results16, go_sem]) rfl ⟨rfl, bl_alloc (Below.refl _ _) _⟩
  · have hc1 : ¬ c < 1 := by omega
    go_enter Try.func16, Try.ntmps16
    go_wp2_with fail
    exact bodyPost_ret (v := .tuple #[rwv ⟨0, none, 0, 0, 0⟩ ⟨0, none, 0, 0, 0⟩, .int .i64 1]) (by simp [results, Try.results16, go_sem]) rfl ⟨rfl, bl_alloc (Below.refl _ _) _⟩
set_option maxHeartbeats 1600000 in
set_option maxRecDepth 100000 in
theorem spread_fit (C n cap : Nat) (ao : Option Addr) (w : World) (hC : 1 ≤ C ∧ C ≤ 4096) (hn : n ≤ 9223372036854775807) (h : n = 0 ∨ n % C ≠ 0) :
    Calls Try.prog 16 #[.int .i64 C, .slice ao n cap] w fun e w' => e = .returned (.tuple #[rwv ⟨0, none, 0, 0, 0⟩ ⟨0, none, 0, 0, 0⟩, .int .i64 32]) ∧ Below w.heap.size w w' := by
  have iC1 : ¬ (C : Int) < 1 := by omega
  have iC2 : ¬ (4096 : Int) < (C : Int) := by omega
  have iC0 : ¬ (C : Int) = 0 := by omega
  have iC0' : ¬ C = 0 := by omega
  by_cases h0 : n = 0
  · subst h0
    go_enter Try.func16, Try.ntmps16
    go_wp2_with fail
    exact bodyPost_ret (v := .tuple #[rwv ⟨0, none, 0, 0, 0⟩ ⟨0, none, 0, 0, 0⟩, .int .i64 32]) (by simp [results, Try.results16, go_sem]) rfl ⟨rfl, bl_alloc (Below.refl _ _) _⟩
  · have hr : n % C ≠ 0 := by rcases h with h | h; exact absurd h h0; exact h
    obtain ⟨q, hq⟩ : ∃ q, n % C = q := ⟨_, rfl⟩
    rw [hq] at hr
    have ir : (n : Int) % (C : Int) = (q : Int) := by rw [← hq]; simp
    have irt : (n : Int).tmod (C : Int) = (q : Int) := by rw [Int.tmod_eq_emod_of_nonneg (by omega)]; exact ir
    have iq : decide ((q : Int) = 0) = false := by simpa using hr
    have iq4 : ((q : Int) != 0) = true := by simpa using hr
    have in0 : ¬ (n : Int) = 0 := by omega
    have hqC : q < C := by rw [← hq]; exact Nat.mod_lt _ (by omega)
    have wq : IntKind.i64.wrap (q : Int) = (q : Int) := by rw [IntKind.wrap_i64]; omega
    clear hq h
    go_enter Try.func16, Try.ntmps16
    go_wp2_with fail
    exact bodyPost_ret (v := .tuple #[rwv ⟨0, none, 0, 0, 0⟩ ⟨0, none, 0, 0, 0⟩, .int .i64 32]) (by simp [results, Try.results16, go_sem]) rfl ⟨rfl, bl_alloc (Below.refl _ _) _⟩
set_option maxHeartbeats 1600000 in
set_option maxRecDepth 100000 in
theorem spread_long (C P n cap : Nat) (ao : Option Addr) (w : World) (hC : 1 ≤ C ∧ C ≤ 4096) (hP : 1 ≤ P) (hn : P * C = n) (hnb : n ≤ 140737488351232) (hM : 262144 < P * nw C) :
    Calls Try.prog 16 #[.int .i64 C, .slice ao n cap] w fun e w' => e = .returned (.tuple #[rwv ⟨0, none, 0, 0, 0⟩ ⟨0, none, 0, 0, 0⟩, .int .i64 2]) ∧ Below w.heap.size w w' := by
  have hd1 : nw C ≤ 64 := by unfold nw; omega
  have hn0 : 0 < n := by rw [← hn]; exact Nat.mul_pos hP hC.1
  have hPb : P ≤ 140737488351232 := Nat.le_trans (Nat.le_mul_of_pos_right P hC.1) (by rw [hn]; exact hnb)
  obtain ⟨M, eM⟩ : ∃ M, P * nw C = M := ⟨_, rfl⟩
  have hMb : M ≤ 9007199254478848 := by rw [← eM]; exact Nat.mul_le_mul hPb hd1
  have HW := hid1 (pwordsFor_any C (by omega))
  rw [eM] at hM
  have iq : (n : Int) / (C : Int) = (P : Int) := by rw [← hn]; push_cast; exact Int.mul_ediv_cancel _ (by omega)
  have ir : (n : Int) % (C : Int) = 0 := by rw [← hn]; push_cast; exact Int.mul_emod_left _ _
  have irt : (n : Int).tmod (C : Int) = 0 := by rw [Int.tmod_eq_emod_of_nonneg (by omega)]; exact ir
  have iM : (P : Int) * (nw C : Int) = (M : Int) := by rw [← eM]; push_cast; rfl
  have wP : IntKind.i64.wrap (P : Int) = (P : Int) := by rw [IntKind.wrap_i64]; omega
  have wM : IntKind.i64.wrap (M : Int) = (M : Int) := by rw [IntKind.wrap_i64]; omega
  have wM64 : IntKind.i64.wrap ((M : Int) * 64) = (M : Int) * 64 := by rw [IntKind.wrap_i64]; omega
  have iC1 : ¬ (C : Int) < 1 := by omega
  have iC2 : ¬ (4096 : Int) < (C : Int) := by omega
  have iC0 : ¬ (C : Int) = 0 := by omega
  have iC0' : ¬ C = 0 := by omega
  have in0 : ¬ (n : Int) = 0 := by omega
  have in0' : ¬ n = 0 := by omega
  have i64m : (16777216 : Int) < (M : Int) * 64 := by omega
  clear hn eM
  go_enter Try.func16, Try.ntmps16
  go_wp2_with (go_at_call 45; refine (HW.out _).mono ?_; rintro e y1 ⟨rfl, rfl⟩)
  exact bodyPost_ret (v := .tuple #[rwv ⟨0, none, 0, 0, 0⟩ ⟨0, none, 0, 0, 0⟩, .int .i64 2]) (by simp [results, Try.results16, go_sem]) rfl ⟨rfl, bl_alloc (Below.refl _ _) _⟩
end Go.Proofs.Ytlilldgconlchaa
/- Both Spreads as one. -/
namespace Go.Proofs.Ytlilldgconlchaa
open Go.RowKit Go.Shelf

theorem own_wrE {W : World} {base m N c : Nat} {bo : Option Addr} (hN : N < 2 ^ (64 * m)) (h : W.ownsRow base 48 1 (.slice bo m c) m (wl N m)) : Wr W bo m N := by
  refine ⟨hN, fun k hk => ?_⟩
  rcases h.2 with ⟨_, h0⟩ | ⟨g, cap, cur, e, _⟩
  · omega
  · cases e
    refine ⟨g, 0, rfl, ?_⟩
    have := h.cells (g := g) rfl k _ (wl_at hk)
    rcases k with _ | k <;> simpa [Addr.add] using this
theorem row_wrE {W : World} {G m N : Nat} (hN : N < 2 ^ (64 * m)) (h : W.rowIs G 48 m (wf N)) : Wr W (some ⟨G, 0, none⟩) m N :=
  ⟨hN, fun k hk => ⟨G, 0, rfl, by rw [Nat.zero_add]; exact h.cell hk⟩⟩
theorem first_bad (l : List Int) : ∀ n, ∃ K0, K0 ≤ n ∧ (∀ k, k < K0 → -1 ≤ ia l k ∧ ia l k ≤ 1) ∧ (K0 < n → ¬ (-1 ≤ ia l K0 ∧ ia l K0 ≤ 1))
  | 0 => ⟨0, Nat.le_refl _, fun k hk => absurd hk (by omega), fun h => absurd h (by omega)⟩
  | n + 1 => by
    obtain ⟨K, h1, h2, h3⟩ := first_bad l n
    by_cases e : K < n
    · exact ⟨K, by omega, h2, fun _ => h3 e⟩
    · obtain rfl : K = n := by omega
      by_cases g : -1 ≤ ia l K ∧ ia l K ≤ 1
      · exact ⟨K + 1, Nat.le_refl _, fun k hk => by
          by_cases e2 : k = K
          · rw [e2]; exact g
          · exact h2 k (by omega), fun h => absurd h (by omega)⟩
      · exact ⟨K, by omega, h2, fun _ => g⟩
/-- Words of an answer: they lie in new memory. -/
def Wn (w w' : World) (ao : Option Addr) (m N : Nat) : Prop := Wr w' ao m N ∧ ∀ g o, ao = some ⟨g, o, none⟩ → w.heap.size ≤ g
theorem Wn.below {w W X : World} {ao : Option Addr} {m N : Nat} (h : Wn w W ao m N) (hb : Below W.heap.size W X) : Wn w X ao m N := ⟨h.1.below hb, h.2⟩
theorem Wn.set {w W : World} {ao : Option Addr} {m N b i : Nat} (h : Wn w W ao m N) (hb : b < w.heap.size) (v : Value) : Wn w (W.setCell ⟨b, i, none⟩ v) ao m N :=
  ⟨⟨h.1.1, fun k hk => by
    obtain ⟨g, o, e, c⟩ := h.1.2 k hk
    have := h.2 g o e
    refine ⟨g, o, e, ?_⟩
    have hne : ¬ b = g := by omega
    simp [go_sem, c]⟩, h.2⟩
theorem wr_none (w w' : World) : Wn w w' none 0 0 := ⟨⟨by decide, fun k hk => absurd hk (by omega)⟩, fun g o e => by cases e⟩
/-- What Spread answers: E its error, L and m its lengths, N1 and N2 its words. -/
theorem spreads (c : Int) (l : List Int) (hb : l.length ≤ 140737488351232) : ∃ (E L : Int) (m N1 N2 : Nat), m ≤ 262144 ∧
    (∀ (w : World) (ao : Option Addr) (cap : Nat), R8 w ao l → Calls Try.prog 16 #[.int .i64 c, .slice ao l.length cap] w fun e w' => ∃ b1 c1 b2 c2, e = .returned (.tuple #[rwv ⟨L, b1, m, c1, 0⟩ ⟨L, b2, m, c2, 0⟩, .int .i64 E]) ∧ Wn w w' b1 m N1 ∧ Wn w w' b2 m N2 ∧ Below w.heap.size w w') ∧
    (∀ (w : World) (ao : Option Addr) (cap : Nat), R8 w ao l → Calls Try.prog 28 #[.int .i64 c, .slice ao l.length cap] w fun e w' => ∃ b1 c1 b2 c2, e = .returned (.tuple #[rwv ⟨L, b1, m, c1, 0⟩ ⟨L, b2, m, c2, 0⟩, .int .i64 E]) ∧ Wn w w' b1 m N1 ∧ Wn w w' b2 m N2 ∧ Below w.heap.size w w') := by
  have no : ∀ {f : FuncId} {E : Int} {w : World} {ao : Option Addr} {cap : Nat}, Calls Try.prog f #[.int .i64 c, .slice ao l.length cap] w (fun e w' => e = .returned (.tuple #[rwv ⟨0, none, 0, 0, 0⟩ ⟨0, none, 0, 0, 0⟩, .int .i64 E]) ∧ Below w.heap.size w w') → Calls Try.prog f #[.int .i64 c, .slice ao l.length cap] w fun e w' => ∃ b1 c1 b2 c2, e = .returned (.tuple #[rwv ⟨0, b1, 0, c1, 0⟩ ⟨0, b2, 0, c2, 0⟩, .int .i64 E]) ∧ Wn w w' b1 0 0 ∧ Wn w w' b2 0 0 ∧ Below w.heap.size w w' := fun h => h.mono (by
    rintro e w' ⟨rfl, hB⟩
    exact ⟨none, 0, none, 0, rfl, wr_none _ _, wr_none _ _, hB⟩)
  by_cases hc : c < 1 ∨ 4096 < c
  · exact ⟨1, 0, 0, 0, 0, by omega, fun w ao cap _ => no (spread_arg c _ cap ao w hc), fun w ao cap _ => no (rspread_arg c _ cap ao w hc)⟩
  obtain ⟨C, rfl⟩ : ∃ C : Nat, c = C := ⟨c.toNat, by omega⟩
  have hC : 1 ≤ C ∧ C ≤ 4096 := by omega
  by_cases hf : l.length = 0 ∨ l.length % C ≠ 0
  · exact ⟨32, 0, 0, 0, 0, by omega, fun w ao cap _ => no (spread_fit C _ cap ao w hC (by omega) hf), fun w ao cap _ => no (rspread_fit C _ cap ao w hC (by omega) hf)⟩
  obtain ⟨P, hn⟩ : ∃ P, P * C = l.length := ⟨l.length / C, by rw [Nat.mul_comm]; exact Nat.mul_div_cancel' (Nat.dvd_of_mod_eq_zero (by omega))⟩
  have hP : 1 ≤ P := by
    rcases Nat.eq_zero_or_pos P with h | h
    · rw [h] at hn; omega
    · exact h
  by_cases hM : 262144 < P * nw C
  · exact ⟨2, 0, 0, 0, 0, by omega, fun w ao cap _ => no (spread_long C P _ cap ao w hC hP hn hb hM), fun w ao cap _ => no (rspread_long C P _ cap ao w hC hP hn hb hM)⟩
  obtain ⟨K0, k1, k2, k3⟩ := first_bad l l.length
  have hS := spN_lt l C P
  have hT := spN_lt (nzl l) C P
  have e64 : (P : Int) * (64 * (nw C : Int)) = ((64 * (P * nw C) : Nat) : Int) := by push_cast; exact Int.mul_left_comm _ _ _
  by_cases hk : K0 = l.length
  · refine ⟨0, ((64 * (P * nw C) : Nat) : Int), P * nw C, spN l C P, spN (nzl l) C P, by omega, fun w ao cap rd => ?_, fun w ao cap rd => ?_⟩
    · obtain ⟨g, o, rfl, _⟩ := rd 0 (by omega)
      refine (spread_walk C P _ K0 g o cap l rfl w hC hP hn (by omega) k1 k2 k3 rd).mono ?_
      rintro e w' ⟨⟨_, G1, G2, rfl, l1, l2, _, r1, r2⟩ | ⟨h, _⟩, hB⟩
      · exact ⟨_, _, _, _, rfl, ⟨row_wrE hS r1, fun g o e => by cases e; exact l1⟩, ⟨row_wrE hT r2, fun g o e => by cases e; exact l2⟩, hB⟩
      · omega
    · obtain ⟨g, o, rfl, _⟩ := rd 0 (by omega)
      refine (rspread_walk C P _ K0 g o cap l rfl w hC hP hn (by omega) k1 k2 k3 rd).mono ?_
      rintro e w' ⟨⟨_, b1, c1, b2, c2, rfl, r1, r2⟩ | ⟨h, _⟩, hB⟩
      · exact ⟨b1, c1, b2, c2, by rw [e64], ⟨own_wrE hS r1, fun g o e => by subst e; exact (r1.lt g rfl).1⟩, ⟨own_wrE hT r2, fun g o e => by subst e; exact (r2.lt g rfl).1⟩, hB⟩
      · omega
  · refine ⟨52, 0, 0, 0, 0, by omega, fun w ao cap rd => ?_, fun w ao cap rd => ?_⟩
    · obtain ⟨g, o, rfl, _⟩ := rd 0 (by omega)
      refine no ((spread_walk C P _ K0 g o cap l rfl w hC hP hn (by omega) k1 k2 k3 rd).mono ?_)
      rintro e w' ⟨⟨h, _⟩ | ⟨_, rfl⟩, hB⟩
      · exact absurd h hk
      · exact ⟨rfl, hB⟩
    · obtain ⟨g, o, rfl, _⟩ := rd 0 (by omega)
      refine no ((rspread_walk C P _ K0 g o cap l rfl w hC hP hn (by omega) k1 k2 k3 rd).mono ?_)
      rintro e w' ⟨⟨h, _⟩ | ⟨_, rfl⟩, hB⟩
      · exact absurd h hk
      · exact ⟨rfl, hB⟩
end Go.Proofs.Ytlilldgconlchaa
/- PatchRows: what its walk reads and keeps. -/
namespace Go.Proofs.Ytlilldgconlchaa
open Go.RowKit Go.Shelf

/-- A row's four cells. -/
def CrE (w : World) (g o : Nat) (A B : Bt) : Prop := w.cell? ⟨g, o, none⟩ = some (.int .i64 A.n) ∧ w.cell? ⟨g, o + 1, none⟩ = some (.slice A.ao A.m A.cap) ∧ w.cell? ⟨g, o + 2, none⟩ = some (.int .i64 B.n) ∧ w.cell? ⟨g, o + 3, none⟩ = some (.slice B.ao B.m B.cap)
theorem CrE.below {W X : World} {g o : Nat} {A B : Bt} (h : CrE W g o A B) (hb : Below W.heap.size W X) : CrE X g o A B := ⟨keepc hb h.1, keepc hb h.2.1, keepc hb h.2.2.1, keepc hb h.2.2.2⟩
/-- A row that came in, with its size. -/
def RzE (w : World) (b : Bt) : Prop := Rw w b ∧ (b.ao = none → b.cap = 0) ∧ b.m ≤ 17592186043904
theorem RzE.below {W X : World} {b : Bt} (h : RzE W b) (hb : Below W.heap.size W X) : RzE X b := ⟨h.1.below hb, h.2⟩
theorem RzE.wr {W : World} {b : Bt} (h : RzE W b) : Wr W b.ao b.m b.N := ⟨h.1.1, h.1.2.2⟩
def LrE (w : World) (ao : Option Addr) (l : List (Bt × Bt)) : Prop := ∀ i (h : i < l.length), (∃ g o, ao = some ⟨g, o, none⟩ ∧ CrE w g (o + i * 4) l[i].1 l[i].2) ∧ RzE w l[i].1 ∧ RzE w l[i].2
def LiE (w : World) (ao : Option Addr) (m : Nat) : Prop := ∀ k, k < m → ∃ g o z, ao = some ⟨g, o, none⟩ ∧ w.cell? ⟨g, o + k, none⟩ = some (.int .i64 z)
def L8E (w : World) (ao : Option Addr) (m : Nat) : Prop := ∀ k, k < m → ∃ g o xo n xc l, ao = some ⟨g, o, none⟩ ∧ w.cell? ⟨g, o + k, none⟩ = some (.slice xo n xc) ∧ l.length = n ∧ n ≤ 140737488351232 ∧ (xo = none → xc = 0) ∧ R8 w xo l
theorem r8_below {W X : World} {ao : Option Addr} {l : List Int} (h : R8 W ao l) (hb : Below W.heap.size W X) : R8 X ao l := fun k hk => by
  obtain ⟨g, o, e, c⟩ := h k hk
  exact ⟨g, o, e, keepc hb c⟩
/-- A row in words with marks behind them. -/
abbrev twE (b : Bt) (G : Nat) : Bt := ⟨b.n, some ⟨G, 0, none⟩, b.m, b.m + 20, b.N⟩
theorem tw_rw {W : World} {b : Bt} {G K : Nat} (hb : RzE W b) (h : Ow W G K (b.m + 20) (rmN b.N b.m 20)) : Rw W (twE b G) := by
  have h1 := rmN_wr hb.1.1 h
  exact ⟨h1.1, hb.1.2.1, h1.2⟩
abbrev slE (b : Bt) : Value := .slice b.ao b.m b.cap
/-- Four cells. -/
def q4 (a b c d : Value) : Nat → Value := fun k => if k = 0 then a else if k = 1 then b else if k = 2 then c else d
def s4 {α : Type} (a b c d : α) : Nat → α := fun k => if k = 0 then a else if k = 1 then b else if k = 2 then c else d
theorem q4_new (w : World) (a b c d : Value) (t : TypeId) : (w.alloc (.cells #[a, b, c, d] t)).rowIs w.heap.size t 4 (q4 a b c d) :=
  World.rowIs_alloc w _ _ _ (fun i hi => by
    rcases i with _ | _ | _ | _ | i
    · rfl
    · rfl
    · rfl
    · rfl
    · simp at hi; omega)
theorem q4_s4 (A B C D : Bt) (j : Nat) : q4 (slE A) (slE B) (slE C) (slE D) j = slE (s4 A B C D j) := by
  unfold q4 s4
  by_cases h0 : j = 0
  · simp [h0]
  · by_cases h1 : j = 1
    · simp [h1]
    · by_cases h2 : j = 2
      · simp [h2]
      · simp [h0, h1, h2]
theorem s4_rz {W : World} {A B C D : Bt} (a : RzE W A) (b : RzE W B) (c : RzE W C) (d : RzE W D) (j : Nat) : RzE W (s4 A B C D j) := by
  unfold s4
  split
  · exact a
  · split
    · exact b
    · split
      · exact c
      · exact d
/-- The list of the four, as far as they are made. -/
structure Mk4 (Z W : World) (bM : Nat) (S : Nat → Bt) (J : Nat) : Prop where
  r : ∃ f, W.rowIs bM 66 4 f ∧ ∀ j, j < J → ∃ G K, f j = .slice (some ⟨G, 0, none⟩) ((S j).m + 20) K ∧ Ow W G K ((S j).m + 20) (rmN (S j).N (S j).m 20)
  b : Below Z.heap.size Z W
theorem Mk4.step {Z W W' : World} {bM G K : Nat} {S : Nat → Bt} {J : Nat} (h : Mk4 Z W bM S J) (hZ : Z.heap.size ≤ bM) (hJ : J < 4) (hb : Below W.heap.size W W') (ho : Ow W' G K ((S J).m + 20) (rmN (S J).N (S J).m 20)) : Mk4 Z (W'.setCell ⟨bM, J, none⟩ (.slice (some ⟨G, 0, none⟩) ((S J).m + 20) K)) bM S (J + 1) := by
  obtain ⟨f, hf, hj⟩ := h.r
  have hlt := hf.lt
  have put : ∀ {g k m N : Nat}, Ow W' g k m N → Ow (W'.setCell ⟨bM, J, none⟩ (.slice (some ⟨G, 0, none⟩) ((S J).m + 20) K)) g k m N := fun {g k m N} hx => by
    obtain ⟨h1, h2, h3, f', hr, hk⟩ := hx
    refine ⟨h1, h2, h3, f', hr.setOther (a := ⟨bM, J, none⟩) ?_ _, hk⟩
    show g ≠ bM
    intro e
    subst e
    obtain ⟨c1, e1, _⟩ := hr
    obtain ⟨c2, e2, _⟩ := keepr hb hf
    rw [e1] at e2
    injection e2 with e2
    injection e2 with _ e3 _
    exact absurd e3 (by decide)
  refine ⟨⟨_, (keepr hb hf).set J _, fun j hjJ => ?_⟩, bl_set (bl_step h.b hb) hZ _⟩
  by_cases e : j = J
  · subst e
    exact ⟨G, K, by simp, put ho⟩
  · obtain ⟨G', K', e1, h1⟩ := hj j (by omega)
    exact ⟨G', K', by rw [← e1]; simp [e], put (h1.below hb)⟩
/-- What the walk knows of one pair of rows: cells, words, and words with marks. -/
structure StE (W : World) (g1 o1 i k bL bM : Nat) (A B C D : Bt) (G0 K0 G1 K1 G2 K2 G3 K3 : Nat) : Prop where
  cr : CrE W g1 (o1 + i * 4) A B
  cb : CrE W g1 (o1 + k * 4) C D
  rl : W.rowIs bL 66 4 (q4 (slE A) (slE B) (slE C) (slE D))
  rm : W.rowIs bM 66 4 (q4 (.slice (some ⟨G0, 0, none⟩) (A.m + 20) K0) (.slice (some ⟨G1, 0, none⟩) (B.m + 20) K1) (.slice (some ⟨G2, 0, none⟩) (C.m + 20) K2) (.slice (some ⟨G3, 0, none⟩) (D.m + 20) K3))
  za : RzE W A
  zb : RzE W B
  zc : RzE W C
  zd : RzE W D
  o0 : Ow W G0 K0 (A.m + 20) (rmN A.N A.m 20)
  o1 : Ow W G1 K1 (B.m + 20) (rmN B.N B.m 20)
  o2 : Ow W G2 K2 (C.m + 20) (rmN C.N C.m 20)
  o3 : Ow W G3 K3 (D.m + 20) (rmN D.N D.m 20)
theorem StE.below {W X : World} {g1 o1 i k bL bM : Nat} {A B C D : Bt} {G0 K0 G1 K1 G2 K2 G3 K3 : Nat} (h : StE W g1 o1 i k bL bM A B C D G0 K0 G1 K1 G2 K2 G3 K3) (hb : Below W.heap.size W X) : StE X g1 o1 i k bL bM A B C D G0 K0 G1 K1 G2 K2 G3 K3 :=
  ⟨h.cr.below hb, h.cb.below hb, keepr hb h.rl, keepr hb h.rm, h.za.below hb, h.zb.below hb, h.zc.below hb, h.zd.below hb, h.o0.below hb, h.o1.below hb, h.o2.below hb, h.o3.below hb⟩
theorem Mk4.st {Z Y : World} {g1 o1 i k bL bM : Nat} {A B C D : Bt} (h : Mk4 Z Y bM (s4 A B C D) 4) (cr : CrE Z g1 (o1 + i * 4) A B) (cb : CrE Z g1 (o1 + k * 4) C D) (rl : Z.rowIs bL 66 4 (q4 (slE A) (slE B) (slE C) (slE D))) (za : RzE Z A) (zb : RzE Z B) (zc : RzE Z C) (zd : RzE Z D) : ∃ G0 K0 G1 K1 G2 K2 G3 K3, StE Y g1 o1 i k bL bM A B C D G0 K0 G1 K1 G2 K2 G3 K3 := by
  obtain ⟨f, hf, hj⟩ := h.r
  obtain ⟨G0, K0, e0, w0⟩ := hj 0 (by omega)
  obtain ⟨G1, K1, e1, w1⟩ := hj 1 (by omega)
  obtain ⟨G2, K2, e2, w2⟩ := hj 2 (by omega)
  obtain ⟨G3, K3, e3, w3⟩ := hj 3 (by omega)
  refine ⟨G0, K0, G1, K1, G2, K2, G3, K3, cr.below h.b, cb.below h.b, keepr h.b rl, hf.congr fun j hj4 => ?_, za.below h.b, zb.below h.b, zc.below h.b, zd.below h.b, w0, w1, w2, w3⟩
  rcases j with _ | _ | _ | _ | j
  · exact e0
  · exact e1
  · exact e2
  · exact e3
  · omega
theorem kpA {Y X : World} {g1 o1 i k bL bM : Nat} {A B C D : Bt} {G0 K0 G1 K1 G2 K2 G3 K3 : Nat} (h : StE Y g1 o1 i k bL bM A B C D G0 K0 G1 K1 G2 K2 G3 K3) (hb : Below Y.heap.size Y X) :
    (X.cell? ⟨bM, 0, none⟩ = some (.slice (some ⟨G0, 0, none⟩) (A.m + 20) K0) ∧ X.cell? ⟨bM, 1, none⟩ = some (.slice (some ⟨G1, 0, none⟩) (B.m + 20) K1)) ∧ X.cell? ⟨g1, o1 + i * 4, none⟩ = some (.int .i64 A.n) ∧ X.cell? ⟨g1, o1 + i * 4 + 1, none⟩ = some (.slice A.ao A.m A.cap) ∧ X.cell? ⟨g1, o1 + i * 4 + 2, none⟩ = some (.int .i64 B.n) ∧ X.cell? ⟨g1, o1 + i * 4 + 3, none⟩ = some (.slice B.ao B.m B.cap) :=
  ⟨⟨(h.below hb).rm.cell (i := 0) (by omega), (h.below hb).rm.cell (i := 1) (by omega)⟩, (h.below hb).cr⟩
theorem kpB4 {Y X : World} {g1 o1 i k bL bM : Nat} {A B C D : Bt} {G0 K0 G1 K1 G2 K2 G3 K3 : Nat} (h : StE Y g1 o1 i k bL bM A B C D G0 K0 G1 K1 G2 K2 G3 K3) (hb : Below Y.heap.size Y X) :
    (X.cell? ⟨bM, 2, none⟩ = some (.slice (some ⟨G2, 0, none⟩) (C.m + 20) K2) ∧ X.cell? ⟨bM, 3, none⟩ = some (.slice (some ⟨G3, 0, none⟩) (D.m + 20) K3)) ∧ X.cell? ⟨g1, o1 + k * 4, none⟩ = some (.int .i64 C.n) ∧ X.cell? ⟨g1, o1 + k * 4 + 1, none⟩ = some (.slice C.ao C.m C.cap) ∧ X.cell? ⟨g1, o1 + k * 4 + 2, none⟩ = some (.int .i64 D.n) ∧ X.cell? ⟨g1, o1 + k * 4 + 3, none⟩ = some (.slice D.ao D.m D.cap) :=
  ⟨⟨(h.below hb).rm.cell (i := 2) (by omega), (h.below hb).rm.cell (i := 3) (by omega)⟩, (h.below hb).cb⟩
theorem kpC4 {Y X : World} {g1 o1 i k bL bM : Nat} {A B C D : Bt} {G0 K0 G1 K1 G2 K2 G3 K3 : Nat} (h : StE Y g1 o1 i k bL bM A B C D G0 K0 G1 K1 G2 K2 G3 K3) (hb : Below Y.heap.size Y X) :
    (X.cell? ⟨g1, o1 + i * 4, none⟩ = some (.int .i64 A.n) ∧ X.cell? ⟨g1, o1 + i * 4 + 1, none⟩ = some (.slice A.ao A.m A.cap) ∧ X.cell? ⟨g1, o1 + i * 4 + 2, none⟩ = some (.int .i64 B.n) ∧ X.cell? ⟨g1, o1 + i * 4 + 3, none⟩ = some (.slice B.ao B.m B.cap)) ∧ X.cell? ⟨g1, o1 + k * 4, none⟩ = some (.int .i64 C.n) ∧ X.cell? ⟨g1, o1 + k * 4 + 1, none⟩ = some (.slice C.ao C.m C.cap) ∧ X.cell? ⟨g1, o1 + k * 4 + 2, none⟩ = some (.int .i64 D.n) ∧ X.cell? ⟨g1, o1 + k * 4 + 3, none⟩ = some (.slice D.ao D.m D.cap) :=
  ⟨(h.below hb).cr, (h.below hb).cb⟩
theorem q_allE {w : World} {b t : Nat} {f : Nat → Value} (r : w.rowIs b t 4 f) (A B : Bt) : ((((w.setCell ⟨b, 0, none⟩ (.int .i64 A.n)).setCell ⟨b, 1, none⟩ (.slice A.ao A.m A.cap)).setCell ⟨b, 2, none⟩ (.int .i64 B.n)).setCell ⟨b, 3, none⟩ (.slice B.ao B.m B.cap)).rowIs b t 4 (qf A B) := by
  refine ((((r.set 0 _).set 1 _).set 2 _).set 3 _).congr fun k hk => ?_
  rcases k with _ | _ | _ | _ | k
  · rfl
  · rfl
  · rfl
  · rfl
  · omega
theorem app_one8 {ops : Array Oper} {rest : List Oper} {o : Oper} {a : Act} {Q : Exit → Act → World → Prop} {w : World} (hgd : o.guard = none) (s x : Operand)
    (ho : o.op = .call { callee := .builtin .append, args := #[s, x], argTypes := #[26, 26] }) (base : Nat) (v : Value) (l : List Int) (n : Nat) (hs : a.eval s = v) (hown : w.ownsRow base 69 1 v n (i8s l))
    (g : Nat) (y : Int) (cb : Nat) (hx : a.eval x = .slice (some ⟨g, 0, none⟩) 1 cb) (hr : w.cell? ⟨g, 0, none⟩ = some (.int .i8 y)) (hM : n ≤ 140737488351252) (hb : base ≤ w.heap.size)
    (h : ∀ v' w', w'.ownsRow base 69 1 v' (n + 1) (i8s (l ++ [y])) → w.grownBy w' v.ownBlock → wpList Try.prog ops Q rest (a.put o.dst v') w') : wpList Try.prog ops Q (o :: rest) a w := by
  obtain ⟨i0, hi, hz0, hz1, hz2⟩ := info_parts info_i8
  refine wpList_append_own w hgd s x _ ho base 69 i0 (.int .i8 0) 1 1 und_i8s hi hz0 hz1 hz2 rfl (by decide) v n (i8s l) hs hown ⟨g, 0, none⟩ 1 cb [.int .i8 y] hx rfl
    (fun j u hu => ?_) (fun u hu => by simp at hu; subst hu; rfl) (by unfold maxLen; omega) (by omega) hb ?_
  · rcases j with _ | j
    · simp at hu; subst hu; exact hr
    · simp at hu
  · intro v' w' h1 h2 _
    exact h v' w' (by rw [i8s_snoc]; exact h1) h2
theorem app_nil8 {ops : Array Oper} {rest : List Oper} {o : Oper} {a : Act} {Q : Exit → Act → World → Prop} {w : World} (hgd : o.guard = none) (s x : Operand)
    (ho : o.op = .call { callee := .builtin .append, args := #[s, x], argTypes := #[26, 26] }) (hs : a.eval s = .slice none 0 0)
    (bo : Option Addr) (l : List Int) (n cb : Nat) (hl : l.length = n) (hx : a.eval x = .slice bo n cb) (hr : R8 w bo l) (hn : bo = none → cb = 0) (hM : n ≤ 140737488351232)
    (h : ∀ v' w', w'.ownsRow w.heap.size 69 1 v' n (i8s l) → Below w.heap.size w w' → wpList Try.prog ops Q rest (a.put o.dst v') w') : wpList Try.prog ops Q (o :: rest) a w := by
  subst hl
  refine app_nil hgd s x ho hs bo l cb hx hr (fun e => ⟨?_, hn e⟩) hM h
  rcases Nat.eq_zero_or_pos l.length with h0 | h0
  · exact h0
  · obtain ⟨g, o', e', _⟩ := hr 0 h0
    rw [e] at e'
    cases e'
/-- Marks. -/
def mks (i : Nat) : List Int := (List.range i).map fun (j : Nat) => 77 + (j : Int)
theorem mks_len (i : Nat) : (mks i).length = i := by simp [mks]
theorem mks_snoc (i : Nat) : mks (i + 1) = mks i ++ [77 + (i : Int)] := by simp [mks, List.range_succ]
theorem ia_mks (l : List Int) {i j : Nat} (h : j < i) : ia (l ++ mks i) (l.length + j) = 77 + (j : Int) := by
  simp [ia, mks, List.getD, h]
theorem ia_ahead (l k : List Int) {j : Nat} (h : j < l.length) : ia (l ++ k) j = ia l j := by
  simp [ia, List.getD, List.getElem?_append_left, h]
theorem keepc2 {W X : World} {g o g' o' : Nat} {v v' : Value} (h : W.cell? ⟨g, o, none⟩ = some v) (h' : W.cell? ⟨g', o', none⟩ = some v') (hb : Below W.heap.size W X) : X.cell? ⟨g, o, none⟩ = some v ∧ X.cell? ⟨g', o', none⟩ = some v' := ⟨keepc hb h, keepc hb h'⟩
theorem own8_r8 {W : World} {base G K n : Nat} {l : List Int} (hl : l.length = n) (h : W.ownsRow base 69 1 (.slice (some ⟨G, 0, none⟩) n K) n (i8s l)) : R8 W (some ⟨G, 0, none⟩) l := by
  subst hl
  intro k hk
  have := h.cells (g := G) rfl k _ (i8s_at hk)
  exact ⟨G, 0, rfl, by rcases k with _ | k <;> simpa [Addr.add] using this⟩
theorem r8_ahead {W : World} {ao : Option Addr} {l k : List Int} (h : R8 W ao (l ++ k)) : R8 W ao l := fun j hj => by
  have := h j (by rw [List.length_append]; omega)
  rwa [ia_ahead l k hj] at this
end Go.Proofs.Ytlilldgconlchaa
