import Derived.Test.YtcjglbejmlebhaaDoorW34
namespace Go.Proofs.YtcjglbejmlebhaaDoor
open Go.RowKit Go.Shelf
attribute [local go_sem ↓] Go.wp_at_zero Go.wp_at_succ

theorem gen_then {K : Act → World → Prop} {Q : Exit → Act → World → Prop} {a : Act} {W : World} (p : World → Prop) (hp : p W) (h : ∀ W', p W' → Exit.then K Q .normal a W') : Exit.then K Q .normal a W := h W hp
theorem gen_any {F : Act → World → Prop} {a : Act} {W : World} (p : World → Prop) (hp : p W) (h : ∀ W', p W' → F a W') : F a W := h W hp
theorem bd40 {x p : Int} (hp : p = 65536 ^ 16) (h0 : 0 ≤ x) (h : x < 4 * p) : (x.natAbs : Int) < 65536 ^ 40 := by
  have h1 : (x.natAbs : Int) < 4 * p := by omega
  rw [hp] at h1
  exact Int.lt_of_lt_of_le h1 (by decide)
theorem pre_le {H D : Int} (hH : 0 ≤ H) (hD : 0 ≤ D) {s : Nat} (hs : s ≤ 16) : pre H D s ≤ H * 65536 + D := by
  unfold pre
  have h1 : (2 : Int) ^ s ≤ 65536 := by
    have : ∀ s : Fin 17, (2 : Int) ^ s.1 ≤ 65536 := by decide
    exact this ⟨s, by omega⟩
  have h2 : (1 : Int) ≤ 2 ^ (16 - s) := by
    have : (0 : Int) < 2 ^ (16 - s) := Int.pow_pos (by decide)
    omega
  have h3 := Int.mul_le_mul_of_nonneg_left h1 hH
  have h4 := Int.ediv_le_self (2 ^ (16 - s)) hD
  omega
theorem part2 {Q R B t X R' : Int} (hX : X = 2 * (Q * B + R) + t) (h1 : 0 ≤ R) (h2 : R < B) (ht : t = 0 ∨ t = 1) (hQ : 0 ≤ Q) (hR' : R' = R + R + t) :
    (B ≤ R' → X = (Q + Q + 1) * B + (R' - B) ∧ 0 ≤ R' - B ∧ R' - B < B ∧ 0 ≤ Q + Q + 1) ∧ (¬ B ≤ R' → X = (Q + Q) * B + R' ∧ 0 ≤ R' ∧ R' < B ∧ 0 ≤ Q + Q) := by
  have e1 : (Q + Q + 1) * B = Q * B + Q * B + B := by rw [Int.add_mul, Int.add_mul, Int.one_mul]
  have e2 : (Q + Q) * B = Q * B + Q * B := by rw [Int.add_mul]
  rw [e1, e2]
  generalize Q * B = q at *
  omega
theorem div_un {x q r b : Int} (h : x = q * b + r) (h1 : 0 ≤ r) (h2 : r < b) : x / b = q ∧ x % b = r :=
  (Int.ediv_emod_unique (by omega)).2 ⟨by rw [h, Int.mul_comm q b]; omega, h1, h2⟩
theorem St.done {w W : World} {oa ob oq oR : Option Addr} {a b : List Int} {ca cb lq cq lr cr : Nat} {sq sr : Bool} {Q R : Int} (h : St w W oa a ca ob b cb sq oq lq cq sr oR lr cr Q R) {X : World}
    (hX : X = ((((W.setCell ⟨w.heap.size + 2, 0, none⟩ (.bool sq)).setCell ⟨w.heap.size + 2, 1, none⟩ (.slice oq lq cq)).setCell ⟨w.heap.size + 3, 0, none⟩ (.bool sr)).setCell ⟨w.heap.size + 3, 1, none⟩ (.slice oR lr cr)).drew) :
    X.cell? ⟨w.heap.size + 2, 0, none⟩ = some (.bool sq) ∧ X.cell? ⟨w.heap.size + 2, 1, none⟩ = some (.slice oq lq cq) ∧ X.cell? ⟨w.heap.size + 3, 0, none⟩ = some (.bool sr) ∧ X.cell? ⟨w.heap.size + 3, 1, none⟩ = some (.slice oR lr cr) ∧
      Bg X (.agg #[.bool sq, .slice oq lq cq]) Q ∧ Bg X (.agg #[.bool sr, .slice oR lr cr]) R ∧ Below w.heap.size w X := by
  subst hX
  obtain ⟨x0, x1⟩ := cell_s0 (p := .bool sq) (q := .slice oq lq cq) h.u0 h.u1
  have y0 : ((W.setCell ⟨w.heap.size + 2, 0, none⟩ (.bool sq)).setCell ⟨w.heap.size + 2, 1, none⟩ (.slice oq lq cq)).cell? ⟨w.heap.size + 3, 0, none⟩ = some (.bool false) := cell_o (cell_o h.v0 (by omega)) (by omega)
  have y1 : ((W.setCell ⟨w.heap.size + 2, 0, none⟩ (.bool sq)).setCell ⟨w.heap.size + 2, 1, none⟩ (.slice oq lq cq)).cell? ⟨w.heap.size + 3, 1, none⟩ = some (.slice none 0 0) := cell_o (cell_o h.v1 (by omega)) (by omega)
  obtain ⟨z0, z1⟩ := cell_s0 (p := .bool sr) (q := .slice oR lr cr) y0 y1
  have k1 : ∃ s', W.cell? ⟨w.heap.size + 2, 0, none⟩ = some (.bool s') := ⟨_, h.u0⟩
  have k2 : ∃ s', (W.setCell ⟨w.heap.size + 2, 0, none⟩ (.bool sq)).cell? ⟨w.heap.size + 2, 0, none⟩ = some (.bool s') := ⟨sq, by simp [go_sem, h.u0]⟩
  have k3 : ∃ s', ((W.setCell ⟨w.heap.size + 2, 0, none⟩ (.bool sq)).setCell ⟨w.heap.size + 2, 1, none⟩ (.slice oq lq cq)).cell? ⟨w.heap.size + 3, 0, none⟩ = some (.bool s') := ⟨_, y0⟩
  have k4 : ∃ s', (((W.setCell ⟨w.heap.size + 2, 0, none⟩ (.bool sq)).setCell ⟨w.heap.size + 2, 1, none⟩ (.slice oq lq cq)).setCell ⟨w.heap.size + 3, 0, none⟩ (.bool sr)).cell? ⟨w.heap.size + 3, 0, none⟩ = some (.bool s') := ⟨sr, by simp [go_sem, y0]⟩
  have D := (Below.refl ((((W.setCell ⟨w.heap.size + 2, 0, none⟩ (.bool sq)).setCell ⟨w.heap.size + 2, 1, none⟩ (.slice oq lq cq)).setCell ⟨w.heap.size + 3, 0, none⟩ (.bool sr)).setCell ⟨w.heap.size + 3, 1, none⟩ (.slice oR lr cr)).heap.size ((((W.setCell ⟨w.heap.size + 2, 0, none⟩ (.bool sq)).setCell ⟨w.heap.size + 2, 1, none⟩ (.slice oq lq cq)).setCell ⟨w.heap.size + 3, 0, none⟩ (.bool sr)).setCell ⟨w.heap.size + 3, 1, none⟩ (.slice oR lr cr))).drew
  exact ⟨keepc D (cell_o (cell_o x0 (by omega)) (by omega)), keepc D (cell_o (cell_o x1 (by omega)) (by omega)), keepc D z0, keepc D z1,
    ((((h.hq.set k1).set k2).set k3).set k4).below D, ((((h.hr.set k1).set k2).set k3).set k4).below D, bl_step (bl_set (bl_set (bl_set (bl_set h.bl (by omega) _) (by omega) _) (by omega) _) (by omega) _) D⟩
theorem len_ge {a b : List Int} (ha : Dg a) (hb : Dg b) (tb : Tr b) (h : val b ≤ val a) : b.length ≤ a.length := by
  rcases Nat.lt_or_ge a.length b.length with h1 | h1
  · have := cmp_len ha hb tb h1; omega
  · exact h1
set_option maxHeartbeats 6400000 in
set_option maxRecDepth 100000 in
theorem parts_any (a b : List Int) (sa sb : Bool) (oa ob : Option Addr) (ca cb : Nat) (B p : Int) (w : World) (ra : Rd w (.slice oa a.length ca) a) (rb : Rd w (.slice ob b.length cb) b) (da : Dg a) (db : Dg b) (tb : Tr b) (vb : val b = B) (hB : 0 < B) (la : a.length ≤ 16) (lb : b.length ≤ 16)
    (hp : p = 65536 ^ 16) (bB : B < p) (bA : ∀ k, val (a.drop k) < p) :
    Calls Tryd.prog 62 #[.agg #[.bool sa, .slice oa a.length ca], .agg #[.bool sb, .slice ob b.length cb]] w fun e w' => ∃ q r, e = .returned (.tuple #[q, r]) ∧ Bg w' q (val a / B) ∧ Bg w' r (val a % B) ∧ Below w.heap.size w w' := by
  have BD : Hid (∀ x : Int, 0 ≤ x → x < 4 * p → (x.natAbs : Int) < 65536 ^ 40) := hid1 (fun x h0 h1 => bd40 hp h0 h1)
  have DA := hid1 da
  have DB := hid1 db
  have TB := hid1 tb
  have BA := hid1 bA
  have p1 : 1 < p := by omega
  have S0 := hid1 (And.intro ra rb)
  clear da db tb bA ra rb hp
  have em := (show wrap64 ((a.length : Int) - 1) = (a.length : Int) - 1 by unfold wrap64; omega)
  go_enter Tryd.func62, Tryd.ntmps62
  go_wp2_with fail
  go_loopw [8] (fun iv wr => ∃ (k : Nat) (sq : Bool) (oq : Option Addr) (lq cq : Nat) (sr : Bool) (oR : Option Addr) (lr cr : Nat) (Q R : Int), k ≤ a.length ∧ iv = .int .i64 ((k : Int) - 1) ∧ St w wr oa a ca ob b cb sq oq lq cq sr oR lr cr Q R ∧ val (a.drop k) = Q * B + R ∧ 0 ≤ R ∧ R < B ∧ 0 ≤ Q) (fun iv _ => (intOf iv + 1).toNat)
  case atStart => exact ⟨a.length, _, _, _, _, _, _, _, _, 0, 0, Nat.le_refl _, rfl, st_new w _ _ _ _ _ _ _ _ _ _ _ _ _ _ S0.out.1 S0.out.2, by simp [val], by omega, hB, by omega⟩
  case round =>
    obtain ⟨k0, sq0, oq0, lq0, cq0, sr0, or0, lr0, cr0, Q0, R0, hk0, rfl, s0, hv0, hR0, hRB0, hQ0⟩ := hrel
    have SS0 := hid1 s0
    clear s0
    by_cases hlt : 1 ≤ k0
    · obtain ⟨k, rfl⟩ : ∃ k, k0 = k + 1 := ⟨k0 - 1, by omega⟩
      have ek : ((k + 1 : Nat) : Int) - 1 = (k : Int) := by omega
      rw [ek]
      have kk0 : (0 : Int) ≤ (k : Int) := by omega
      have kk : (k : Int) < (a.length : Int) := by omega
      clear ek
      obtain ⟨D1, D2⟩ := dat_bd DA.out k
      have DV := hid1 (drop_val (a := a) (i := k) (by omega))
      have H0 : Hid (0 ≤ val (a.drop (k + 1))) := hid1 (val_nonneg (fun d h => DA.out d (List.mem_of_mem_drop h)))
      go_wp2_with fail
      go_loopw [9] (fun bv wr => ∃ (s : Nat) (sq : Bool) (oq : Option Addr) (lq cq : Nat) (sr : Bool) (oR : Option Addr) (lr cr : Nat) (Q R : Int), s ≤ 16 ∧ bv = .int .i64 (bitv s) ∧ St w wr oa a ca ob b cb sq oq lq cq sr oR lr cr Q R ∧ pre (val (a.drop (k + 1))) (dat a k) s = Q * B + R ∧ 0 ≤ R ∧ R < B ∧ 0 ≤ Q) (fun bv _ => (intOf bv).toNat)
      case atStart => exact ⟨0, _, _, _, _, _, _, _, _, Q0, R0, by omega, rfl, SS0.out, by rw [pre_zero ⟨D1, D2⟩]; exact hv0, hR0, hRB0, hQ0⟩
      case round =>
        clear hv0 hR0 hRB0 hQ0 SS0
        rename World => V
        obtain ⟨s, sq, oq, lq, cq, sr, oR, lr, cr, Q, R, hs, rfl, s0, hv, hR, hRB, hQ⟩ := hrel
        have S1 := hid1 s0
        clear s0
        by_cases hs16 : s < 16
        · obtain ⟨bf1, bf2, bf3, bf4, bf5, bf6⟩ := bit_facts ⟨s, hs16⟩
          dsimp only at bf1 bf2 bf3 bf4 bf5 bf6
          have qb : Q ≤ Q * B := by have := Int.mul_le_mul_of_nonneg_left (show (1 : Int) ≤ B by omega) hQ; omega
          have pb : pre (val (a.drop (k + 1))) (dat a k) s < p := by
            have h1 := pre_le H0.out D1 hs
            have h2 := BA.out k
            rw [DV.out] at h2; omega
          have Qp : Q < p := by omega
          have HV := hid1 hv
          clear hv qb pb
          have PS := hid1 (pre_step (val (a.drop (k + 1))) (dat a k) hs16)
          have bf0 : ¬ bitv s = 0 := by omega
          have tE : Int.tdiv (dat a k) (bitv s) = dat a k / bitv s := Int.tdiv_eq_ediv_of_nonneg D1
          have E0 : 0 ≤ dat a k / bitv s := Int.ediv_nonneg D1 (by omega)
          have E1 : dat a k / bitv s ≤ dat a k := Int.ediv_le_self _ D1
          have bE := hid1 bf4
          clear bf4
          obtain ⟨E, hE⟩ : ∃ E, dat a k / bitv s = E := ⟨_, rfl⟩
          rw [hE] at tE E0 E1
          have PT : Hid (pre (val (a.drop (k + 1))) (dat a k) (s + 1) = 2 * (Q * B + R) + E % 2) := hid1 (by rw [PS.out, HV.out, ← hE, bE.out])
          clear hE
          have wE : wrap64 E = E := by unfold wrap64; omega
          have mE : Int.tmod E 2 = E % 2 := Int.tmod_eq_emod_of_nonneg E0
          have wM : wrap64 (E % 2) = E % 2 := by unfold wrap64; omega
          obtain ⟨nb, hnb⟩ : ∃ nb, bitv (s + 1) = nb := ⟨_, rfl⟩
          rw [hnb] at bf3 bf5 bf6
          have HNB := hid1 hnb
          clear hnb bE PS HV
          generalize bitv s = cbv at *
          have tb2 : Int.tdiv cbv 2 = nb := by rw [Int.tdiv_eq_ediv_of_nonneg (by omega)]; exact bf3
          have wb2 : wrap64 nb = nb := by unfold wrap64; omega
          obtain ⟨ga, rfl, xa⟩ : ∃ g, oa = some ⟨g, 0, none⟩ ∧ V.cell? ⟨g, k, none⟩ = some (.int .i64 (dat a k)) := by
            obtain ⟨ao, cap, e, f⟩ := S1.out.ra.parts
            obtain ⟨g, e2, c⟩ := f k (by omega)
            simp at e
            exact ⟨g, e.1.trans e2, c⟩
          have r0 := S1.out.r0; have r1 := S1.out.r1
          go_wp2_with fail
          refine (radd_any R R _ _ _ S1.out.hr S1.out.hr (BD.out _ (by omega) (by omega)) (BD.out _ (by omega) (by omega))).mono ?_
          rintro e V1 ⟨z1, rfl, hz1, hb1⟩
          obtain ⟨s1, o1, l1, c1, rfl⟩ := hz1.form
          have S2 := hid1 (S1.out.keep hb1)
          have HZ1 := hid1 hz1
          clear hz1 r0 r1 hb1 xa
          have r0 := S2.out.r0; have r1 := S2.out.r1; have fr0 := S2.out.fr0; have fr1 := S2.out.fr1; have q0 := S2.out.q0; have q1 := S2.out.q1
          go_wp2_with fail
          refine gen_calls (fun W' => St w W' (some ⟨ga, 0, none⟩) a ca ob b cb sq oq lq cq s1 o1 l1 c1 Q (R + R)) (S2.out.setR HZ1.out) ?_
          clear r0 r1 fr0 fr1 q0 q1 HZ1 S2
          rintro V2 s3
          have S3 := hid1 s3
          clear s3
          refine (radd_any Q Q _ _ _ S3.out.hq S3.out.hq (BD.out _ (by omega) (by omega)) (BD.out _ (by omega) (by omega))).mono ?_
          rintro e V3 ⟨z2, rfl, hz2, hb2⟩
          obtain ⟨s2, o2, l2, c2, rfl⟩ := hz2.form
          have S4 := hid1 (S3.out.keep hb2)
          have S5 := hid1 (S4.out.setQ hz2)
          clear hz2 hb2 S3
          have q0 := S4.out.q0; have q1 := S4.out.q1; have fq0 := S4.out.fq0; have fq1 := S4.out.fq1
          have a1 := S5.out.a1
          obtain ⟨g', eg, xa⟩ : ∃ g, some (⟨ga, 0, none⟩ : Addr) = some ⟨g, 0, none⟩ ∧ ((V3.setCell ⟨w.heap.size + 4, 0, none⟩ (.bool s2)).setCell ⟨w.heap.size + 4, 1, none⟩ (.slice o2 l2 c2)).cell? ⟨g, k, none⟩ = some (.int .i64 (dat a k)) := by
            obtain ⟨ao, cap, e, f⟩ := S5.out.ra.parts
            obtain ⟨g, e2, c⟩ := f k (by omega)
            simp at e
            exact ⟨g, e.1.trans e2, c⟩
          obtain rfl : ga = g' := by simpa using eg
          have hcase : E % 2 = 0 ∨ E % 2 = 1 := by omega
          rcases hcase with hb0 | hb0
          · have be : (E % 2 == 1) = false := by rw [hb0]; rfl
            have PP := part2 (R' := R + R) PT.out hR hRB (.inl hb0) hQ (by omega)
            have PGa := hid1 PP.1
            have PLa := hid1 PP.2
            clear PP
            have b1 := S5.out.b1; have r0 := S5.out.r0; have r1 := S5.out.r1
            go_wp2_with fail
            refine gen_calls (fun W' => St w W' (some ⟨ga, 0, none⟩) a ca ob b cb s2 o2 l2 c2 s1 o1 l1 c1 (Q + Q) (R + R)) S5.out ?_
            clear a1 q0 q1 fq0 fq1 xa S4 S5 b1 r0 r1
            rintro V4 s6
            have S6 := hid1 s6
            clear s6
            obtain ⟨vra, dra, exa, rdra, ddra, tdra, vdra⟩ := S6.out.hr
            obtain ⟨-, eva⟩ : Value.bool s1 = .bool (decide ((R + R) < 0)) ∧ Value.slice o1 l1 c1 = vra := by simpa using exa
            have vda : val dra = (R + R) := by rw [vdra]; omega
            have lda : dra.length ≤ 40 := len_le ddra tdra (by rw [vdra]; exact BD.out _ (by omega) (by omega))
            rw [← eva] at rdra
            have RRa := hid1 rdra
            have DDa := hid1 ddra
            have TTa := hid1 tdra
            clear rdra ddra tdra vdra exa eva

            refine (compare_any dra b _ _ _ RRa.out S6.out.rb DDa.out DB.out TTa.out TB.out (by omega) (by omega)).mono ?_
            rintro e Y1_a ⟨cca, rfl, hca, hbca⟩
            rw [vda, vb] at hca
            have SCa := hid1 (S6.out.keep hbca)

            have b1 := SCa.out.b1; have r0 := SCa.out.r0; have r1 := SCa.out.r1; have fr0 := SCa.out.fr0; have fr1 := SCa.out.fr1
            by_cases gea : B ≤ (R + R)
            · have cga : cca ≥ 0 := hca.2 gea
              go_wp2_with fail
              refine (minus_any dra b _ _ _ (RRa.out.below hbca) SCa.out.rb DDa.out DB.out (by omega)).mono ?_
              rintro e Y2_a ⟨vma, rfl, oma, hbma⟩
              obtain ⟨ooa, coa, rfl⟩ := own_form oma
              have RMa := hid1 (Rd.own oma)
              have SMa := hid1 (SCa.out.keep hbma)
              clear b1 r0 r1 fr0 fr1 oma
              have b1 := SMa.out.b1; have r0 := SMa.out.r0; have r1 := SMa.out.r1; have fr0 := SMa.out.fr0; have fr1 := SMa.out.fr1; have q0 := SMa.out.q0; have q1 := SMa.out.q1
              have vma : val (mrow dra b dra.length) = (((R + R) - B).natAbs : Int) := by
                rw [(owe_end DDa.out DB.out (by rw [vda, vb]; exact gea) (len_ge DDa.out DB.out TB.out (by rw [vda, vb]; exact gea))).2, vda, vb]; omega
              have VMa := hid1 vma
              clear vma
              go_wp2_with fail
              refine (trim_num ((R + R) - B) false _ (mrow dra b dra.length) _ RMa.out (mrow_dg DDa.out DB.out _) VMa.out (fun _ => rfl) (fun h => by omega)).mono ?_
              rintro e Y3_a ⟨yta, sta, ota, lta, cta, rfl, rfl, hya, hbta⟩
              have STa := hid1 ((SMa.out.keep hbta).setR hya)
              have r0' := (SMa.out.keep hbta).r0; have r1' := (SMa.out.keep hbta).r1; have fr0' := (SMa.out.keep hbta).fr0; have fr1' := (SMa.out.keep hbta).fr1
              clear b1 r0 r1 fr0 fr1 q0 q1 hbta hbma hbca hya RMa VMa RRa
              go_wp2_with fail
              refine gen_world (fun W' => St w W' (some ⟨ga, 0, none⟩) a ca ob b cb s2 o2 l2 c2 sta ota lta cta (Q + Q) ((R + R) - B)) STa.out ?_
              clear r0' r1' fr0' fr1'
              rintro Y4_a sxa
              have SXa := hid1 sxa
              clear sxa
              have q0 := SXa.out.q0; have q1 := SXa.out.q1
              go_region_with (first
                | (go_at_call 35; refine (rint_any 1 ⟨by omega, by omega⟩ _).mono ?_; rintro e X1_za ⟨i1_za, rfl, hi1_za, hbiza⟩; obtain ⟨siza, oiza, liza, ciza, rfl⟩ := hi1_za.form; have HIza := hid1 hi1_za; clear hi1_za; have q0 := keepc hbiza q0; have q1 := keepc hbiza q1; have BIza : Hid (Below Y4_a.heap.size Y4_a X1_za) := hid1 (by repeat (first | exact Below.refl _ _ | refine bl_alloc ?_ _ | refine Below.drew ?_ | refine bl_drewN ?_ _ | refine bl_set ?_ (by omega) _ | refine bl_step ?_ (by assumption))))
                | (go_at_call 46; refine (radd_any (Q + Q) 1 _ _ _ (SXa.out.hq.below BIza.out) HIza.out (BD.out _ (by omega) (by omega)) (BD.out 1 (by omega) (by omega))).mono ?_; rintro e X2_za ⟨i2_za, rfl, hi2_za, hbjza⟩; obtain ⟨sjza, ojza, ljza, cjza, rfl⟩ := hi2_za.form; have HJza := hid1 hi2_za; clear hi2_za; have BJza : Hid (Below Y4_a.heap.size Y4_a X2_za) := hid1 (bl_step BIza.out hbjza); have q0 := (SXa.out.keep BJza.out).q0; have q1 := (SXa.out.keep BJza.out).q1; have fq0 := (SXa.out.keep BJza.out).fq0; have fq1 := (SXa.out.keep BJza.out).fq1))
              all_goals (
                refine gen_any (fun W' => St w W' (some ⟨ga, 0, none⟩) a ca ob b cb sjza ojza ljza cjza sta ota lta cta ((Q + Q) + 1) ((R + R) - B)) ((SXa.out.keep BJza.out).setQ HJza.out) ?_
                rintro Y5_a sya
                have SYa := hid1 sya
                clear sya q0 q1 fq0 fq1
                simp only [Exit.inBlock, Exit.then]
                go_wp2_with fail
                exact ⟨⟨s + 1, _, _, _, _, _, _, _, _, _, _, by omega, by rw [HNB.out], SYa.out, PGa.out gea⟩, by simp [intOf]; omega⟩)
            · have cla : ¬ cca ≥ 0 := fun h => gea (hca.1 h)
              go_wp2_with fail
              exact ⟨⟨s + 1, _, _, _, _, _, _, _, _, _, _, by omega, by rw [HNB.out], SCa.out, PLa.out gea⟩, by simp [intOf]; omega⟩
          · have be : (E % 2 == 1) = true := by rw [hb0]; rfl
            have PP := part2 (R' := R + R + 1) PT.out hR hRB (.inr hb0) hQ (by omega)
            have PGb := hid1 PP.1
            have PLb := hid1 PP.2
            clear PP
            go_wp2_with fail
            refine gen_world (fun W' => St w W' (some ⟨ga, 0, none⟩) a ca ob b cb s2 o2 l2 c2 s1 o1 l1 c1 (Q + Q) (R + R)) S5.out ?_
            clear a1 q0 q1 fq0 fq1 xa S4 S5
            rintro V4 s6
            have S6 := hid1 s6
            clear s6
            have r0 := S6.out.r0; have r1 := S6.out.r1
            go_region_with (first
              | (go_at_call 35; refine (rint_any 1 ⟨by omega, by omega⟩ _).mono ?_; rintro e X1_y ⟨i1_y, rfl, hi1_y, hbiy⟩; obtain ⟨siy, oiy, liy, ciy, rfl⟩ := hi1_y.form; have HIy := hid1 hi1_y; clear hi1_y; have r0 := keepc hbiy r0; have r1 := keepc hbiy r1; have BIy : Hid (Below V4.heap.size V4 X1_y) := hid1 (by repeat (first | exact Below.refl _ _ | refine bl_alloc ?_ _ | refine Below.drew ?_ | refine bl_drewN ?_ _ | refine bl_set ?_ (by omega) _ | refine bl_step ?_ (by assumption))))
              | (go_at_call 46; refine (radd_any (R + R) 1 _ _ _ (S6.out.hr.below BIy.out) HIy.out (BD.out _ (by omega) (by omega)) (BD.out 1 (by omega) (by omega))).mono ?_; rintro e X2_y ⟨i2_y, rfl, hi2_y, hbjy⟩; obtain ⟨sjy, ojy, ljy, cjy, rfl⟩ := hi2_y.form; have HJy := hid1 hi2_y; clear hi2_y; have BJy : Hid (Below V4.heap.size V4 X2_y) := hid1 (bl_step BIy.out hbjy); have r0 := (S6.out.keep BJy.out).r0; have r1 := (S6.out.keep BJy.out).r1; have fr0 := (S6.out.keep BJy.out).fr0; have fr1 := (S6.out.keep BJy.out).fr1))
            all_goals (
              refine gen_then (fun W' => St w W' (some ⟨ga, 0, none⟩) a ca ob b cb s2 o2 l2 c2 sjy ojy ljy cjy (Q + Q) (R + R + 1)) ((S6.out.keep BJy.out).setR HJy.out) ?_
              rintro V6 s7
              have S7 := hid1 s7
              clear s7 r0 r1 fr0 fr1
              have b1 := S7.out.b1; have r0 := S7.out.r0; have r1 := S7.out.r1
              obtain ⟨vrb, drb, exb, rdrb, ddrb, tdrb, vdrb⟩ := S7.out.hr
              obtain ⟨-, evb⟩ : Value.bool sjy = .bool (decide ((R + R + 1) < 0)) ∧ Value.slice ojy ljy cjy = vrb := by simpa using exb
              have vdb : val drb = (R + R + 1) := by rw [vdrb]; omega
              have ldb : drb.length ≤ 40 := len_le ddrb tdrb (by rw [vdrb]; exact BD.out _ (by omega) (by omega))
              rw [← evb] at rdrb
              have RRb := hid1 rdrb
              have DDb := hid1 ddrb
              have TTb := hid1 tdrb
              clear rdrb ddrb tdrb vdrb exb evb
              go_wp2_with fail
              refine (compare_any drb b _ _ _ RRb.out S7.out.rb DDb.out DB.out TTb.out TB.out (by omega) (by omega)).mono ?_
              rintro e Y1_b ⟨ccb, rfl, hcb, hbcb⟩
              rw [vdb, vb] at hcb
              have SCb := hid1 (S7.out.keep hbcb)
              clear b1 r0 r1
              have b1 := SCb.out.b1; have r0 := SCb.out.r0; have r1 := SCb.out.r1; have fr0 := SCb.out.fr0; have fr1 := SCb.out.fr1
              by_cases geb : B ≤ (R + R + 1)
              · have cgb : ccb ≥ 0 := hcb.2 geb
                go_wp2_with fail
                refine (minus_any drb b _ _ _ (RRb.out.below hbcb) SCb.out.rb DDb.out DB.out (by omega)).mono ?_
                rintro e Y2_b ⟨vmb, rfl, omb, hbmb⟩
                obtain ⟨oob, cob, rfl⟩ := own_form omb
                have RMb := hid1 (Rd.own omb)
                have SMb := hid1 (SCb.out.keep hbmb)
                clear b1 r0 r1 fr0 fr1 omb
                have b1 := SMb.out.b1; have r0 := SMb.out.r0; have r1 := SMb.out.r1; have fr0 := SMb.out.fr0; have fr1 := SMb.out.fr1; have q0 := SMb.out.q0; have q1 := SMb.out.q1
                have vmb : val (mrow drb b drb.length) = (((R + R + 1) - B).natAbs : Int) := by
                  rw [(owe_end DDb.out DB.out (by rw [vdb, vb]; exact geb) (len_ge DDb.out DB.out TB.out (by rw [vdb, vb]; exact geb))).2, vdb, vb]; omega
                have VMb := hid1 vmb
                clear vmb
                go_wp2_with fail
                refine (trim_num ((R + R + 1) - B) false _ (mrow drb b drb.length) _ RMb.out (mrow_dg DDb.out DB.out _) VMb.out (fun _ => rfl) (fun h => by omega)).mono ?_
                rintro e Y3_b ⟨ytb, stb, otb, ltb, ctb, rfl, rfl, hyb, hbtb⟩
                have STb := hid1 ((SMb.out.keep hbtb).setR hyb)
                have r0' := (SMb.out.keep hbtb).r0; have r1' := (SMb.out.keep hbtb).r1; have fr0' := (SMb.out.keep hbtb).fr0; have fr1' := (SMb.out.keep hbtb).fr1
                clear b1 r0 r1 fr0 fr1 q0 q1 hbtb hbmb hbcb hyb RMb VMb RRb
                go_wp2_with fail
                refine gen_world (fun W' => St w W' (some ⟨ga, 0, none⟩) a ca ob b cb s2 o2 l2 c2 stb otb ltb ctb (Q + Q) ((R + R + 1) - B)) STb.out ?_
                clear r0' r1' fr0' fr1'
                rintro Y4_b sxb
                have SXb := hid1 sxb
                clear sxb
                have q0 := SXb.out.q0; have q1 := SXb.out.q1
                go_region_with (first
                  | (go_at_call 35; refine (rint_any 1 ⟨by omega, by omega⟩ _).mono ?_; rintro e X1_zb ⟨i1_zb, rfl, hi1_zb, hbizb⟩; obtain ⟨sizb, oizb, lizb, cizb, rfl⟩ := hi1_zb.form; have HIzb := hid1 hi1_zb; clear hi1_zb; have q0 := keepc hbizb q0; have q1 := keepc hbizb q1; have BIzb : Hid (Below Y4_b.heap.size Y4_b X1_zb) := hid1 (by repeat (first | exact Below.refl _ _ | refine bl_alloc ?_ _ | refine Below.drew ?_ | refine bl_drewN ?_ _ | refine bl_set ?_ (by omega) _ | refine bl_step ?_ (by assumption))))
                  | (go_at_call 46; refine (radd_any (Q + Q) 1 _ _ _ (SXb.out.hq.below BIzb.out) HIzb.out (BD.out _ (by omega) (by omega)) (BD.out 1 (by omega) (by omega))).mono ?_; rintro e X2_zb ⟨i2_zb, rfl, hi2_zb, hbjzb⟩; obtain ⟨sjzb, ojzb, ljzb, cjzb, rfl⟩ := hi2_zb.form; have HJzb := hid1 hi2_zb; clear hi2_zb; have BJzb : Hid (Below Y4_b.heap.size Y4_b X2_zb) := hid1 (bl_step BIzb.out hbjzb); have q0 := (SXb.out.keep BJzb.out).q0; have q1 := (SXb.out.keep BJzb.out).q1; have fq0 := (SXb.out.keep BJzb.out).fq0; have fq1 := (SXb.out.keep BJzb.out).fq1))
                all_goals (
                  refine gen_any (fun W' => St w W' (some ⟨ga, 0, none⟩) a ca ob b cb sjzb ojzb ljzb cjzb stb otb ltb ctb ((Q + Q) + 1) ((R + R + 1) - B)) ((SXb.out.keep BJzb.out).setQ HJzb.out) ?_
                  rintro Y5_b syb
                  have SYb := hid1 syb
                  clear syb q0 q1 fq0 fq1
                  simp only [Exit.inBlock, Exit.then]
                  go_wp2_with fail
                  exact ⟨⟨s + 1, _, _, _, _, _, _, _, _, _, _, by omega, by rw [HNB.out], SYb.out, PGb.out geb⟩, by simp [intOf]; omega⟩)
              · have clb : ¬ ccb ≥ 0 := fun h => geb (hcb.1 h)
                go_wp2_with fail
                exact ⟨⟨s + 1, _, _, _, _, _, _, _, _, _, _, by omega, by rw [HNB.out], SCb.out, PLb.out geb⟩, by simp [intOf]; omega⟩)
        · have es : s = 16 := by omega
          subst es
          have b16 : bitv 16 = 0 := by decide
          have ek1 : wrap64 ((k : Int) - 1) = (k : Int) - 1 := by unfold wrap64; omega
          have HV := hid1 hv
          clear hv
          go_wp2_with fail
          exact ⟨⟨k, _, _, _, _, _, _, _, _, _, _, by omega, rfl, S1.out, by rw [DV.out, ← pre_end]; exact HV.out, hR, hRB, hQ⟩, by simp [intOf]⟩
    · have k00 : k0 = 0 := by omega
      subst k00
      have HV := hid1 hv0
      clear hv0
      have q0 := SS0.out.q0; have q1 := SS0.out.q1; have r0 := SS0.out.r0; have r1 := SS0.out.r1; have u0 := SS0.out.u0; have u1 := SS0.out.u1; have v0 := SS0.out.v0; have v1 := SS0.out.v1; have fu0 := SS0.out.fu0; have fu1 := SS0.out.fu1; have fv0 := SS0.out.fv0; have fv1 := SS0.out.fv1
      go_wp2_with fail
      go_region_with fail
      all_goals (
        refine gen_then (fun X => X.cell? ⟨w.heap.size + 2, 0, none⟩ = some (.bool sq0) ∧ X.cell? ⟨w.heap.size + 2, 1, none⟩ = some (.slice oq0 lq0 cq0) ∧ X.cell? ⟨w.heap.size + 3, 0, none⟩ = some (.bool sr0) ∧ X.cell? ⟨w.heap.size + 3, 1, none⟩ = some (.slice or0 lr0 cr0) ∧
          Bg X (.agg #[.bool sq0, .slice oq0 lq0 cq0]) Q0 ∧ Bg X (.agg #[.bool sr0, .slice or0 lr0 cr0]) R0 ∧ Below w.heap.size w X) (SS0.out.done rfl) ?_
        rintro X ⟨e0, e1, e2, e3, hq, hr, hX⟩
        have HQ := hid1 (And.intro hq (And.intro hr hX))
        clear hq hr hX q0 q1 r0 r1 u0 u1 v0 v1 fu0 fu1 fv0 fv1
        go_wp2_with fail
        simp [bodyPost, results, Tryd.results62, go_sem, e0, e1, e2, e3]
        obtain ⟨hq, hr, hX⟩ := HQ.out
        obtain ⟨d1, d2⟩ := div_un (x := val a) HV.out hR0 hRB0
        rw [d1, d2]
        first | exact ⟨hq, hr, hX⟩ | exact ⟨_, _, ⟨rfl, rfl⟩, hq, hr, hX⟩ | exact ⟨_, _, rfl, hq, hr, hX⟩ | exact ⟨_, rfl, _, rfl, hq, hr, hX⟩ | exact ⟨_, _, ⟨rfl, rfl⟩, ⟨hq, hr, hX⟩⟩)
end Go.Proofs.YtcjglbejmlebhaaDoor
