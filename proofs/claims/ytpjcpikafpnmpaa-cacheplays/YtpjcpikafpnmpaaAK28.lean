/- CacheRecent. -/
import Derived.Test.YtpjcpikafpnmpaaAK27
namespace Go.Proofs.Ytpjcpikafpnmpaa
open Go.RowKit

theorem rmo_one (room : Int) : 1 ≤ rmo room ∧ rmo room ≤ 4096 := by
  unfold rmo
  split <;> omega
set_option maxHeartbeats 3200000 in
set_option maxRecDepth 100000 in
theorem cacheRecent_any (w : World) (room : Int) (ao : Option Addr) (xs : List Oq) (cap : Nat) (hl : xs.length ≤ 1954687338211) (hx : Lo w ao xs) :
    Calls Try.prog 3 #[.int .i64 room, .slice ao xs.length cap] w fun e w' => e = .returned (.bool true) ∧ Below w.heap.size w w' := by
  obtain ⟨n, hn⟩ : ∃ n, xs.length = n := ⟨_, rfl⟩
  have HX := hid1 hx
  have HN := hid1 hn
  rw [hn] at hl ⊢
  clear hx hn
  obtain ⟨r, hr⟩ : ∃ r : Nat, rmo room = r := ⟨(rmo room).toNat, by have := rmo_one room; omega⟩
  have hr1 := rmo_one room
  rw [hr] at hr1
  go_enter Try.func3, Try.ntmps3
  go_upto_region 2 with (go_at_call 8; refine (begun_any w).mono ?_; rintro e w1 ⟨rfl, B1⟩)
  have HM := hid1 (cf_made room B1 (F := fun _ => False) (fun _ h => h.elim))
  rw [hr] at HM
  clear B1 hr
  go_wp2_with (go_at_call 9; refine HM.out.mono ?_; rintro e w2 ⟨p, bm, rfl, c2, -⟩)
  have HC2 := hid1 c2
  clear c2 HM
  go_loopw [7, 8] (fun va vi wr => ∃ (k : Nat) (h m : Int) (E : List En) (A : List ByteArray), k ≤ n ∧ vi = .int .i64 k ∧ 0 ≤ h ∧ 0 ≤ m ∧ h + m ≤ k ∧ A.length ≤ k ∧ Rc r A E ∧ Sl wr w.heap.size va A ∧ Cf w wr (fun b => va.ownBlock = some b) p r bm h m E) (fun _ vi _ => n - (intOf vi).toNat)
  case atStart => exact ⟨0, 0, 0, [], [], Nat.zero_le _, rfl, by omega, by omega, by omega, Nat.le_refl _, ⟨List.nodup_nil, by simp⟩, Sl.nil _ _, HC2.out.less (fun _ h => by cases h)⟩
  case round =>
    clear HC2
    obtain ⟨k, h, m, E, A, hk, rfl, h0, m0, hm, hA, rc, sl, c0⟩ := hrel
    by_cases hlt : k < n
    · have ik : (k : Int) < (n : Int) := by omega
      have ik0 : (0 : Int) ≤ (k : Int) := by omega
      obtain ⟨x, hxk⟩ : ∃ x, xs[k]? = some x := ⟨_, List.getElem?_eq_getElem (by rw [HN.out]; exact hlt)⟩
      obtain ⟨g, o, rfl, oc⟩ := HX.out k x hxk
      have e0 := keepc c0.bel oc.c0
      have e1 := keepc c0.bel oc.c1
      have e2 := keepc c0.bel oc.c2
      have e3 := keepc c0.bel oc.c3
      have e4 := keepc c0.bel oc.c4
      have hz : x.k.size ≤ 9223372036854775807 := by have := oc.kz; omega
      have hM : x.l.length * 8 ≤ 140737488355328 := by have := oc.nz; omega
      have HC0 := hid1 c0
      have BX := op_new wr x
      have BA : Below wr.heap.size wr (wr.alloc (.cells #[.int .i64 x.kd, .int .i64 x.on, .slice x.ka x.k.size x.kc, .slice x.la x.l.length x.lc, .int .i64 x.ag] 33)) := bl_alloc (Below.refl _ _) _
      have HCX := hid1 (c0.below BA)
      have hsl := sl.below BA
      have hkb := oc.kb.below (HCX.out).bel
      have HKB := hid1 hkb
      have cv := conv_str (cap := x.kc) hkb
      have f0 := BX.cell (i := 0) (by omega)
      have f2 := BX.cell (i := 2) (by omega)
      have f3 := BX.cell (i := 3) (by omega)
      have f4 := BX.cell (i := 4) (by omega)
      dsimp [opf] at f0 f2 f3 f4
      have hbf := oc.kb.bf (fun b => u7.ownBlock = some b)
      have hnn := oc.nn
      have HNM := hid1 (oc.nm.below HCX.out.bel)
      clear c0 hxk hkb BX sl
      go_upto_region 11 with fail
      clear e0 e1 e2 e3 e4 BA oc HC0
      generalize wr.alloc (.cells #[.int .i64 x.kd, .int .i64 x.on, .slice x.ka x.k.size x.kc, .slice x.la x.l.length x.lc, .int .i64 x.ag] 33) = X at *
      generalize x.kd = kd at *
      go_upto_region 12 with fail
      by_cases hs : 65536 < x.k.size
      · have hs1 : (65536 : Int) < (x.k.size : Int) := by omega
        go_wp2_with fail
        exact ⟨⟨k + 1, h, m, E, A, by omega, by go_num, h0, m0, by omega, by omega, rc, hsl, HCX.out⟩, by simp [intOf]; omega⟩
      have hs1 : ¬ (65536 : Int) < (x.k.size : Int) := by omega
      by_cases hkd : kd = 1 ∨ kd = 2
      · go_cut [51] from 39 to 50 (fun v wx => v = .bool false ∧ wx = X)
        case first =>
          rcases hkd with rfl | rfl
          · go_wp2_with fail
            go_meet
            exact ⟨rfl, rfl⟩
          · go_wp2_with fail
            go_meet
            exact ⟨rfl, rfl⟩
        case rest =>
          obtain ⟨rfl, rfl⟩ := hcut
          rename World => Y
          have hks : x.k.size ≤ 65536 := by omega
          clear hs hs1 cv
          go_upto_if 54 with fail
          go_cut [11] from 55 to 68 (fun vb wx => ∃ (b : Bool) (h' m' : Int) (E' : List En), vb = .bool b ∧ 0 ≤ h' ∧ 0 ≤ m' ∧ h' + m' ≤ k + 1 ∧ Rc r (if b then x.k :: wk A x.k else A) E' ∧ Sl wx w.heap.size u7 A ∧ Cf w wx (fun b => u7.ownBlock = some b) p r bm h' m' E')
          case first =>
            rcases hkd with rfl | rfl
            · have HG := hid1 (cf_get HCX.out x.ka x.kc x.k HKB.out hbf hz (by omega) (by omega))
              cases hb : gtB E x.k
              · rw [hb, gt_none hb] at HG
                clear hb
                go_wp2_with (go_at_call 10; refine HG.out.mono ?_; rintro e X1 ⟨bo, bc, rfl, -, -, c1, fk⟩)
                go_meet
                exact ⟨false, h, m + 1, E, rfl, h0, by omega, by omega, rc, hsl.fk fk fun _ e => e, c1⟩
              · have rc' := rc.get x.k hb
                rw [hb] at HG
                clear hb
                go_wp2_with (go_at_call 10; refine HG.out.mono ?_; rintro e X1 ⟨bo, bc, rfl, -, -, c1, fk⟩)
                go_meet
                exact ⟨true, h + 1, m, _, rfl, by omega, m0, by omega, rc', hsl.fk fk fun _ e => e, c1⟩
            · have HG := hid1 (cf_put HCX.out x.ka x.kc x.k HKB.out hbf x.la x.lc x.l x.ag hnn HNM.out hM)
              have rc' := rc.put x.k x.l x.ag
              rw [show puV x.k = 0 from if_pos hks, show puE (r : Int).toNat E x.k x.l x.ag = ptE r E (x.k, x.l, x.ag) from if_pos hks] at HG
              go_wp2_with (go_at_call 11; refine HG.out.mono ?_; rintro e X1 ⟨rfl, c1, fk⟩)
              go_meet
              exact ⟨true, h, m, _, rfl, h0, m0, by omega, rc', hsl.fk fk fun _ e => e, c1⟩
          case rest =>
            obtain ⟨b, h', m', E', rfl, h0', m0', hm', rc', sl', c'⟩ := hcut
            clear hbf hnn HNM f0 f2 f3 f4 HKB HCX hsl hM hz h0 m0 hm rc
            rename World => Y
            obtain ⟨a7, c7, rfl, hc7⟩ := sl'.sl
            have HSL := hid1 sl'
            have HC := hid1 c'
            have HCC := hid1 hc7
            clear sl' c' hc7
            obtain ⟨na, hna⟩ : ∃ na, A.length = na := ⟨_, rfl⟩
            have HNA := hid1 hna
            rw [hna] at hA HSL HC
            simp only [hna]
            clear hna
            go_upto_if 69 with fail
            go_cut [7, 12, 13] from 70 to 90 (fun va _ _ wx => Sl wx w.heap.size va (if b then x.k :: wk A x.k else A) ∧ Cf w wx (fun b => va.ownBlock = some b) p r bm h' m' E')
            case first =>
              cases b
              · go_wp2_with fail
                go_meet
                exact ⟨HSL.out, HC.out⟩
              · have s0 := hid1 (Sl.one Y x.k)
                have b0 := hid1 (bl_alloc (Below.refl Y.heap.size Y) (.cells #[.string x.k] 9))
                go_wp2_with fail
                go_loopw [12, 13] (fun vl vj wr => ∃ j : Nat, j ≤ na ∧ vj = .int .i64 j ∧ Sl wr Y.heap.size vl (x.k :: wk (A.take j) x.k) ∧ Below Y.heap.size Y wr) (fun _ vj _ => na - (intOf vj).toNat)
                case atStart => exact ⟨0, Nat.zero_le _, rfl, s0.out, b0.out⟩
                case round =>
                  clear s0 b0
                  obtain ⟨j, hj, rfl, sj, bj⟩ := hrel
                  by_cases hjn : j < na
                  · have ij : (j : Int) < (na : Int) := by omega
                    have ij0 : (0 : Int) ≤ (j : Int) := by omega
                    obtain ⟨y, hy⟩ : ∃ y, A[j]? = some y := ⟨_, List.getElem?_eq_getElem (by rw [HNA.out]; exact hjn)⟩
                    obtain ⟨g7, rfl, c7⟩ := HCC.out j y hy
                    have d7 := keepc bj c7
                    have ws := wk_step A x.k y j hy
                    by_cases hyx : y = x.k
                    · rw [if_pos hyx] at ws
                      clear c7 hy
                      have hbe : (y.toList == x.k.toList) = true := by rw [str_eqb]; exact decide_eq_true hyx
                      go_wp2_with fail
                      exact ⟨⟨j + 1, by omega, by go_num, by rw [ws]; exact sj, bj⟩, by simp [intOf]; omega⟩
                    · rw [if_neg hyx] at ws
                      clear c7 hy
                      have hbe : (y.toList == x.k.toList) = false := by rw [str_eqb]; exact decide_eq_false hyx
                      have bn : Below wr.heap.size wr (wr.alloc (.cells #[.string y] 9)) := bl_alloc (Below.refl _ _) _
                      have sn := hid1 (sj.below bn)
                      have hcn := new_cell wr (.string y) 9
                      have hWL : (x.k :: wk (A.take j) x.k).length ≤ j + 1 := by
                        have h1 : (wk (A.take j) x.k).length ≤ (A.take j).length := List.length_filter_le _ _
                        rw [List.length_take] at h1
                        simp only [List.length_cons]
                        omega
                      have hM : ((x.k :: wk (A.take j) x.k).length + 1) * 16 ≤ 140737488355328 := by omega
                      have hzz : Y.heap.size ≤ (wr.alloc (.cells #[.string y] 9)).heap.size := Nat.le_trans bj.size bn.size
                      have hob : ∀ q, u12.ownBlock = some q → Y.heap.size ≤ q := fun q e => (sj.lt q e).1
                      have HB := hid1 (fun (w' : World) (g : (wr.alloc (.cells #[.string y] 9)).grownBy w' u12.ownBlock) => (bl_step bj bn).grown g hzz hob)
                      have HLT := hid1 hWL
                      clear sj bj hWL hob
                      go_wp2_with (at_builtin; refine app_str rfl _ _ rfl Y.heap.size u12 _ (by go_simp) sn.out _ (by go_simp) y hcn hM hzz ?_; intro v' w' s2 g2)
                      exact ⟨⟨j + 1, by omega, by go_num, by rw [ws]; exact s2, HB.out _ g2⟩, by simp [intOf]; omega⟩
                  · obtain rfl : j = na := by omega
                    rw [List.take_of_length_le (by rw [HNA.out]; exact Nat.le_refl _)] at sj
                    go_wp2_with fail
                    go_meet
                    refine ⟨sj.base HC.out.bel.size, HC.out.more bj fun q hq => .inr (sj.lt q hq)⟩
            case rest =>
              obtain ⟨sl, c1⟩ := hcut
              have hA2 : (if b = true then x.k :: wk A x.k else A).length ≤ k + 1 := by
                cases b
                · exact (by rw [HNA.out]; omega : A.length ≤ k + 1)
                · have h1 : (wk A x.k).length ≤ A.length := List.length_filter_le _ _
                  rw [HNA.out] at h1
                  show (x.k :: wk A x.k).length ≤ k + 1
                  simp only [List.length_cons]
                  omega
              clear HSL HC HCC HNA hA
              generalize (if b = true then x.k :: wk A x.k else A) = B at *
              obtain ⟨a7, c7, rfl, hc7⟩ := sl.sl
              have HK := hid1 (cf_keys c1)
              have HSL := hid1 sl
              have HRC := hid1 rc'
              have HCB := hid1 hc7
              clear c1 sl rc' hc7
              obtain ⟨nb, hnb⟩ : ∃ nb, B.length = nb := ⟨_, rfl⟩
              have HNB := hid1 hnb
              rw [hnb] at hA2 HSL HK
              simp only [hnb]
              clear hnb
              go_upto_region 27 with (go_at_call 12; refine HK.out.mono ?_; rintro e Z ⟨v, ss, rfl, kl, c3, fk⟩)
              rw [HRC.out.ks] at kl
              obtain ⟨ko, kc, rfl, kd'⟩ := kl.kd
              obtain ⟨q, hq⟩ : ∃ q, (B.take r).length = q := ⟨_, rfl⟩
              have hq' : q = min r nb := by rw [← hq, List.length_take, HNB.out]
              have HA : Hid (∀ j, j < q → ∃ g1 o1 g2 x ai ci, ko = some ⟨g1, o1, none⟩ ∧ Z.cell? ⟨g1, o1 + j, none⟩ = some (.slice ai x.size ci) ∧ Bs Z ai x ∧ a7 = some ⟨g2, 0, none⟩ ∧ Z.cell? ⟨g2, j, none⟩ = some (.string x)) := fun j hj => by
                have hx1 : (B.take r)[j]? = some (B.take r)[j] := List.getElem?_eq_getElem (by omega)
                obtain ⟨g1, o1, ai, ci, e, c, bs⟩ := kd' j _ hx1
                have hx2 := hx1
                rw [List.getElem?_take_of_lt (by omega)] at hx2
                obtain ⟨g2, rfl, cy⟩ := HCB.out j _ hx2
                exact ⟨g1, o1, g2, _, ai, ci, e, c, bs, rfl, (World.cell?_of_block (fk.keep g2 rfl (lt_of_cell cy))).trans cy⟩
              have HZ := hid1 (And.intro (HSL.out.fk fk fun _ e => e) c3)
              simp only [hq]
              have HQ := hid1 hq'
              clear kl kd' fk HK HCB c3 HSL hq hq'
              go_upto_if 98 with fail
              go_cut [15] from 98 to 99 (fun v wx => v = .int .i64 q ∧ wx = Z)
              case first =>
                by_cases hrn : r < nb
                · have i1 : (r : Int) < (nb : Int) := by omega
                  go_wp2_with fail
                  go_meet
                  exact ⟨by rw [HQ.out, Nat.min_eq_left (by omega)], rfl⟩
                · have i1 : ¬ (r : Int) < (nb : Int) := by omega
                  go_wp2_with fail
                  go_meet
                  exact ⟨by rw [HQ.out, Nat.min_eq_right (by omega)], rfl⟩
              case rest =>
                obtain ⟨rfl, rfl⟩ := hcut
                rename World => Z
                have hqb : q ≤ nb := by have := HQ.out; omega
                clear HQ
                go_wp2_with fail
                go_loopw [16] (fun vj wr => ∃ j : Nat, j ≤ q ∧ vj = .int .i64 j ∧ Qt Z wr) (fun vj _ => q - (intOf vj).toNat)
                case atStart => exact ⟨0, Nat.zero_le _, rfl, Qt.refl _⟩
                case round =>
                  obtain ⟨j, hj, rfl, qt⟩ := hrel
                  by_cases hjq : j < q
                  · have ij : (j : Int) < (q : Int) := by omega
                    have ij0 : (0 : Int) ≤ (j : Int) := by omega
                    have ijb : (j : Int) < (nb : Int) := by omega
                    obtain ⟨g1, o1, g2, y, ai, ci, rfl, d1, bs, rfl, d2⟩ := HA.out j hjq
                    replace d1 := qt.cell d1
                    replace d2 := qt.cell d2
                    have cv1 := conv_qt (cap := ci) (bs.qt qt)
                    have hbe : (y.toList == y.toList) = true := by rw [str_eqb]; exact decide_eq_true rfl
                    clear bs
                    go_wp2_with fail
                    go_quiet (fail)
                    go_wp2_with fail
                    exact ⟨⟨j + 1, by omega, by go_num, qt.drewN _⟩, by simp [intOf]; omega⟩
                  · obtain rfl : j = q := by omega
                    obtain ⟨s3, c3⟩ := HZ.out
                    have hb3 := qt.below (Below.refl Z.heap.size Z)
                    go_wp2_with fail
                    exact ⟨⟨k + 1, h', m', E', B, by omega, by go_num, h0', m0', by omega, by rw [HNB.out]; omega, HRC.out, s3.below hb3, c3.below hb3⟩, by simp [intOf]; omega⟩
      · have hk1 : (kd != 1) = true := bne_iff_ne.2 fun e => hkd (.inl e)
        have hk2 : (kd != 2) = true := bne_iff_ne.2 fun e => hkd (.inr e)
        go_wp2_with fail
        exact ⟨⟨k + 1, h, m, E, A, by omega, by go_num, h0, m0, by omega, by omega, rc, hsl, HCX.out⟩, by simp [intOf]; omega⟩
    · obtain rfl : k = n := by omega
      go_wp2_with fail
      go_ret
      exact ⟨rfl, c0.bel⟩
end Go.Proofs.Ytpjcpikafpnmpaa
