/- CacheNever. -/
import Derived.Test.YtpjcpikafpnmpaaAK30
namespace Go.Proofs.Ytpjcpikafpnmpaa
open Go.RowKit

theorem Cf.len {w0 w : World} {F : Nat → Prop} {p : Nat} {rm : Int} {bm : Nat} {h m : Int} {E : List En} (c : Cf w0 w F p rm bm h m E) : E.length ≤ 4096 := by
  obtain ⟨S, L, rfl, c, -⟩ := c
  have := c.ch.rom
  have := c.ch.cnt
  simp [ct]
  omega
theorem Ow.nms {w : World} {base n : Nat} {bo : Option Addr} {c : Nat} {l : List Int} (h : Ow w base (.slice bo n c) l) : Nm w bo l := by
  obtain ⟨ao, cap, e, -, nm, -⟩ := h.nm
  injection e with e1 e2 e3
  subst e1
  exact nm
set_option maxHeartbeats 6400000 in
set_option maxRecDepth 100000 in
theorem cacheNever_any (w : World) (room : Int) (ao : Option Addr) (xs : List Oq) (cap : Nat) (hl : xs.length ≤ 1954687338211) (hx : Lo w ao xs) :
    Calls Try.prog 5 #[.int .i64 room, .slice ao xs.length cap] w fun e w' => e = .returned (.bool true) ∧ Below w.heap.size w w' := by
  obtain ⟨n, hn⟩ : ∃ n, xs.length = n := ⟨_, rfl⟩
  have HX := hid1 hx
  have HN := hid1 hn
  have HL := hid1 hl
  rw [hn] at hl ⊢
  clear hx hn
  obtain ⟨r, hr⟩ : ∃ r : Nat, rmo room = r := ⟨(rmo room).toNat, by have := rmo_one room; omega⟩
  have hr1 := rmo_one room
  rw [hr] at hr1
  go_enter Try.func5, Try.ntmps5
  go_upto_region 2 with (go_at_call 8; refine (begun_any w).mono ?_; rintro e w1 ⟨rfl, B1⟩)
  have HM := hid1 (cf_made room B1 (F := fun _ => False) (fun _ h => h.elim))
  rw [hr] at HM
  clear B1 hr
  go_wp2_with (go_at_call 9; refine HM.out.mono ?_; rintro e w2 ⟨p, bm, rfl, c2, -⟩)
  have HC2 := hid1 c2
  clear c2 HM
  go_loopw [7] (fun vi wr => ∃ (k : Nat) (h m : Int) (E : List En), k ≤ n ∧ vi = .int .i64 k ∧ 0 ≤ h ∧ 0 ≤ m ∧ h + m ≤ k ∧ Iv xs k E ∧ Cf w wr (fun _ => False) p r bm h m E) (fun vi _ => n - (intOf vi).toNat)
  case atStart => exact ⟨0, 0, 0, [], Nat.zero_le _, rfl, by omega, by omega, by omega, Iv.nil _ _, HC2.out⟩
  case round =>
    clear HC2
    obtain ⟨k, h, m, E, hk, rfl, h0, m0, hm, iv, c0⟩ := hrel
    by_cases hlt : k < n
    · have ik : (k : Int) < (n : Int) := by omega
      have ik0 : (0 : Int) ≤ (k : Int) := by omega
      obtain ⟨x, hxk⟩ : ∃ x, xs[k]? = some x := ⟨_, List.getElem?_eq_getElem (by rw [HN.out]; exact hlt)⟩
      obtain ⟨g, o, rfl, oc⟩ := HX.out k x hxk
      have e0 := keepc c0.bel oc.c0
      have e1 := keepc c0.bel oc.c1
      have e2 := keepc c0.bel oc.c2
      have e3 := keepc c0.bel oc.c3
      have e4 := keepc c0.bel oc.c4
      have hz : x.k.size ≤ 9223372036854775807 := by have := oc.kz; omega
      have hM : x.l.length * 8 ≤ 140737488355328 := by have := oc.nz; omega
      have HNZ := hid1 oc.nz
      have BX := op_new wr x
      have BA : Below wr.heap.size wr (wr.alloc (.cells #[.int .i64 x.kd, .int .i64 x.on, .slice x.ka x.k.size x.kc, .slice x.la x.l.length x.lc, .int .i64 x.ag] 33)) := bl_alloc (Below.refl _ _) _
      have HCX := hid1 (c0.more (F' := fun q => q = wr.heap.size) BA fun q hq => .inr ⟨by omega, by subst hq; simp⟩)
      have HBX := hid1 BX
      have f0 := BX.cell (i := 0) (by omega)
      have f2 := BX.cell (i := 2) (by omega)
      have f3 := BX.cell (i := 3) (by omega)
      have f4 := BX.cell (i := 4) (by omega)
      dsimp [opf] at f0 f2 f3 f4
      have hbf := oc.kb.bf (fun q => q = wr.heap.size)
      have hnn := oc.nn
      have HKB := hid1 oc.kb
      have HNM := hid1 oc.nm
      have HIV := hid1 iv
      have HXK := hid1 hxk
      have hlen := c0.len
      clear c0 hxk BX iv
      go_upto_block 1 with fail
      go_cut [8, 9, 10, 11, 12, 13, 14, 15, 16, 17, 18, 19, 20] from 36 to 174 (fun _ _ _ _ _ _ _ _ _ _ _ _ _ wx => ∃ (h' m' : Int) (E' : List En), 0 ≤ h' ∧ 0 ≤ m' ∧ h' + m' ≤ k + 1 ∧ Iv xs (k + 1) E' ∧ Cf w wx (fun _ => False) p r bm h' m' E')
      case first =>
        go_upto_block 2 with fail
        clear e0 e1 e2 e3 e4 BA oc
        generalize wr.alloc (.cells #[.int .i64 x.kd, .int .i64 x.on, .slice x.ka x.k.size x.kc, .slice x.la x.l.length x.lc, .int .i64 x.ag] 33) = X at *
        generalize wr.heap.size = b8 at *
        obtain ⟨kd, hkd⟩ : ∃ kd, x.kd = kd := ⟨_, rfl⟩
        have HKD := hid1 hkd
        rw [hkd] at f0
        simp only [hkd]
        clear hkd
        by_cases k1 : kd = 1
        · subst k1
          have HK := hid1 (cf_keys HCX.out)
          go_upto_region 14 with (go_at_call 12; refine HK.out.mono ?_; rintro e X1 ⟨v, ss, rfl, kl, c1, fk⟩)
          obtain ⟨q, hq⟩ : ∃ q, E.length = q := ⟨_, rfl⟩
          obtain ⟨ko, kc, rfl, kd'⟩ := kl.form (n := q) (by rw [List.length_map, hq])
          have hq1 : q ≤ 4096 := by omega
          have HQ := hid1 hq
          have HB1 := hid1 (fk.row HBX.out rfl)
          have HC1 := hid1 c1
          have HA : Hid (∀ j, j < q → ∃ g1 o1 y ai ci, ko = some ⟨g1, o1, none⟩ ∧ X1.cell? ⟨g1, o1 + j, none⟩ = some (.slice ai y.size ci) ∧ Bs X1 ai y ∧ (E.map (·.1))[j]? = some y) := fun j hj => by
            obtain ⟨y, hx1⟩ : ∃ y, (E.map (·.1))[j]? = some y := ⟨_, List.getElem?_eq_getElem (by rw [List.length_map]; omega)⟩
            obtain ⟨g1, o1, ai, ci, e, c, bs⟩ := kd' j _ hx1
            exact ⟨g1, o1, _, ai, ci, e, c, bs, hx1⟩
          have c2 := HB1.out.cell (i := 2) (by omega)
          have hkb1 := hid1 (HKB.out.below c1.bel)
          dsimp [opf] at c2
          clear kl kd' fk HK c1 hq hlen HCX f0 f2 f3 f4
          go_wp2_with fail
          go_loopw [9, 11] (fun vb vj wr => ∃ j : Nat, j ≤ q ∧ vj = .int .i64 j ∧ vb = .bool (inK ((E.map (·.1)).take j) x.k) ∧ Qt X1 wr) (fun _ vj _ => q - (intOf vj).toNat)
          case atStart => exact ⟨0, Nat.zero_le _, rfl, rfl, Qt.refl _⟩
          case round =>
            obtain ⟨j, hj, rfl, rfl, qt⟩ := hrel
            by_cases hjq : j < q
            · have ij : (j : Int) < (q : Int) := by omega
              have ij0 : (0 : Int) ≤ (j : Int) := by omega
              obtain ⟨g1, o1, y, ai, ci, rfl, d1, bs, hy⟩ := HA.out j hjq
              have ks := inK_step (E.map (·.1)) x.k y j hy
              replace d1 := qt.cell d1
              have d2 := qt.cell c2
              have cv1 := conv_qt (cap := ci) (bs.qt qt)
              have cv2 := conv_qt (cap := x.kc) (hkb1.out.qt qt)
              clear bs hy
              cases hin : inK ((E.map (·.1)).take j) x.k
              · rw [hin, Bool.false_or] at ks
                have HIN := hid1 ks
                clear ks hin
                by_cases hyx : y = x.k
                · subst hyx
                  have hbe : (x.k.toList == x.k.toList) = true := by rw [str_eqb]; exact decide_eq_true rfl
                  go_wp2_with fail
                  go_quiet (fail)
                  go_wp2_with fail
                  exact ⟨⟨j + 1, by omega, by go_num, by rw [HIN.out]; simp, qt.drewN _⟩, by simp [intOf]; omega⟩
                · have hbe : (y.toList == x.k.toList) = false := by rw [str_eqb]; exact decide_eq_false hyx
                  go_wp2_with fail
                  go_quiet (fail)
                  go_wp2_with fail
                  exact ⟨⟨j + 1, by omega, by go_num, by rw [HIN.out, decide_eq_false hyx], qt.drewN _⟩, by simp [intOf]; omega⟩
              · rw [hin, Bool.true_or] at ks
                have HIN := hid1 ks
                clear ks hin
                go_wp2_with fail
                go_quiet (fail)
                go_wp2_with fail
                exact ⟨⟨j + 1, by omega, by go_num, by rw [HIN.out], qt.drewN _⟩, by simp [intOf]; omega⟩
            · obtain rfl : j = q := by omega
              rw [List.take_of_length_le (by rw [List.length_map, HQ.out]; exact Nat.le_refl _), ← gtB_is]
              have hbq := qt.below (Below.refl X1.heap.size X1)
              have c3 := qt.cell c2
              have HB3 := hid1 (keepr hbq HB1.out)
              have HG := hid1 (cf_get (HC1.out.below hbq) x.ka x.kc x.k (hkb1.out.below hbq) hbf hz (by omega) (by omega))
              clear HA qt HC1 HB1 hkb1 c2
              go_upto_region 18 with fail
              go_upto_region 19 with (go_at_call 10; refine HG.out.mono ?_; rintro e X3 ⟨bo, bc, rfl, -, ow, c4, fk⟩)
              refine gen_world (fun X => Cf w X (fun q => q = b8) p r bm (if gtB E x.k = true then h + 1 else h) (if gtB E x.k = true then m else m + 1) (gtE E x.k) ∧ X.rowIs X3.heap.size 31 2 (rf (.slice bo (gtL E x.k).length bc) (gtA E x.k)) ∧ Ow X 0 (.slice bo (gtL E x.k).length bc) (gtL E x.k) ∧ X.rowIs b8 33 5 (opf x)) ?_ ?_
              · have al : Below X3.heap.size X3 (X3.alloc (.cells #[.slice bo (gtL E x.k).length bc, .int .i64 (gtA E x.k)] 31)) := bl_alloc (Below.refl _ _) _
                simpa using And.intro (c4.below al) (And.intro (rf_new X3 (.slice bo (gtL E x.k).length bc) (gtA E x.k)) (And.intro ((ow.base (Nat.zero_le _)).below al) (keepr al (fk.row HB3.out rfl))))
              rintro X4 ⟨c5, r5, ow5, b5⟩
              clear ow c4 fk HG c3 HB3 hbq
              generalize X3.heap.size = b12 at *
              have HKN := known_any X4 w (some ⟨g, o, none⟩) xs cap HL.out HX.out c5.bel k (by rw [HN.out]; omega) x.k
              rw [HN.out] at HKN
              have c3 := b5.cell (i := 2) (by omega)
              have cv := conv_str (cap := x.kc) (HKB.out.below c5.bel)
              dsimp [opf] at c3
              have ivg := hid1 (HIV.out.get HXK.out HKD.out x.k)
              have HC5 := hid1 c5
              have HR5 := hid1 r5
              clear c5 r5 b5
              cases hb : gtB E x.k
              · rw [hb] at HC5
                obtain ⟨gl, ga⟩ := gt_miss hb
                rw [gl, ga, List.length_nil] at HR5
                have HKN' := hid1 HKN
                clear HKN hb
                simp only [gl, ga, List.length_nil]
                clear gl ga ow5
                go_upto_region 20 with (go_at_call 16; refine HKN'.out.mono ?_; rintro e X5 ⟨bo2, bm2, bc2, a2, rfl, -, hb5⟩)
                have al6 : Below X4.heap.size X4 (X5.alloc (.cells #[.slice bo2 bm2 bc2, .int .i64 a2] 31)) := bl_alloc hb5 _
                have HRS := results_any bo none [] [] bc 0 0 0 (X5.alloc (.cells #[.slice bo2 bm2 bc2, .int .i64 a2] 31)) (by decide) (Nm.nil _ _) (Nm.nil _ _)
                rw [List.length_nil, decide_eq_true rfl, decide_eq_true rfl, Bool.true_and] at HRS
                have r6 := keepr al6 HR5.out
                have d0 := r6.cell (i := 0) (by omega)
                have d1 := r6.cell (i := 1) (by omega)
                have c7 := hid1 (HC5.out.below al6)
                have HRS' := hid1 HRS
                dsimp only [rf] at d0 d1
                clear HRS al6 r6 hb5 HR5 HC5 HKN' c3 cv
                generalize (kn (xs.take k) x.k).isSome = kb at *
                go_wp2_with (go_at_call 17; refine HRS'.out.mono ?_; rintro e X7 ⟨rfl, b7⟩)
                go_meet
                exact ⟨h, m + 1, _, h0, by omega, by omega, ivg.out, (c7.out.below b7).less fun _ h => h.elim⟩
              · rw [hb, if_pos rfl, if_pos rfl] at HC5
                obtain ⟨e, he, e1, gl, ga⟩ := gt_found hb
                obtain ⟨oq, hkn, hol, hoa⟩ := HIV.out e he
                rw [e1] at hkn
                rw [← gl] at hol
                rw [← ga] at hoa
                obtain ⟨nmo, _⟩ := HX.out.mem (List.mem_of_mem_take (kn_is hkn).1)
                rw [hol] at nmo
                have HKN' := hid1 HKN
                have hkd := hid1 (show ∀ bo bm bc a, (∀ o, kn (xs.take k) x.k = some o → bo = o.la ∧ bm = o.l.length ∧ bc = o.lc ∧ a = o.ag) → bo = oq.la ∧ bm = (gtL E x.k).length ∧ bc = oq.lc ∧ a = gtA E x.k from fun bo bm bc a hh => by have := hh oq hkn; rw [hol, hoa] at this; exact this)
                have hks : (kn (xs.take k) x.k).isSome = true := by rw [hkn]; rfl
                rw [hks] at HKN'
                have HNO := hid1 nmo
                have HOW := hid1 ow5
                have hgl : (gtL E x.k).length ≤ 4611686018427387904 := by
                  have := (HX.out.mem (List.mem_of_mem_take (kn_is hkn).1)).2
                  rw [hol] at this
                  omega
                have HKE := hid1 hkn
                clear hb HKN gl ga hol hoa hkn hks nmo ow5 e1 he
                go_upto_region 20 with (go_at_call 16; refine HKN'.out.mono ?_; rintro e X5 ⟨bo2, bm2, bc2, a2, rfl, hrel, hb5⟩; obtain ⟨rfl, rfl, rfl, rfl⟩ := hkd.out _ _ _ _ hrel; clear hrel)
                have al6 : Below X4.heap.size X4 (X5.alloc (.cells #[.slice oq.la (gtL E x.k).length oq.lc, .int .i64 (gtA E x.k)] 31)) := bl_alloc hb5 _
                have hw6 := HC5.out.bel.trans (al6.mono HC5.out.bel.size)
                have HRS := results_any bo oq.la (gtL E x.k) (gtL E x.k) bc oq.lc (gtA E x.k) (gtA E x.k) (X5.alloc (.cells #[.slice oq.la (gtL E x.k).length oq.lc, .int .i64 (gtA E x.k)] 31)) hgl (HOW.out.nms.below al6) (HNO.out.below hw6)
                rw [decide_eq_true rfl, decide_eq_true rfl, Bool.true_and] at HRS
                have r6 := keepr al6 HR5.out
                have d0 := r6.cell (i := 0) (by omega)
                have d1 := r6.cell (i := 1) (by omega)
                have r7 := rf_new X5 (.slice oq.la (gtL E x.k).length oq.lc) (gtA E x.k)
                have g0 := r7.cell (i := 0) (by omega)
                have g1 := r7.cell (i := 1) (by omega)
                have c7 := hid1 (HC5.out.below al6)
                have HRS' := hid1 HRS
                dsimp only [rf] at d0 d1 g0 g1
                clear HRS al6 r6 r7 hb5 HR5 HC5 HKN' c3 cv hkd HNO HOW hgl HKE hw6
                go_wp2_with (go_at_call 17; refine HRS'.out.mono ?_; rintro e X7 ⟨rfl, b7⟩)
                go_meet
                exact ⟨h + 1, m, _, by omega, m0, by omega, ivg.out, (c7.out.below b7).less fun _ h => h.elim⟩
        by_cases k2 : kd = 2
        · subst k2
          have HP := hid1 (cf_put HCX.out x.ka x.kc x.k (HKB.out.below HCX.out.bel) hbf x.la x.lc x.l x.ag hnn (HNM.out.below HCX.out.bel) hM)
          rw [Int.toNat_natCast] at HP
          have ivp := hid1 (HIV.out.put HXK.out HKD.out r)
          by_cases hks : x.k.size ≤ 65536
          · rw [show puV x.k = 0 from if_pos hks, show puE r E x.k x.l x.ag = ptE r E (x.k, x.l, x.ag) from if_pos hks] at HP
            rw [show puE r E x.k x.l x.ag = ptE r E (x.k, x.l, x.ag) from if_pos hks] at ivp
            obtain ⟨gb, gl, ga⟩ := gt_put r (by omega) E x.k x.l x.ag
            generalize ptE r E (x.k, x.l, x.ag) = E1 at *
            have hk1 : (x.k.size : Int) ≤ 65536 := by omega
            clear hks
            go_upto_region 24 with (go_at_call 11; refine HP.out.mono ?_; rintro e X1 ⟨rfl, c1, fk⟩)
            have B1 := fk.row HBX.out rfl
            have HG := hid1 (cf_get c1 x.ka x.kc x.k (HKB.out.below c1.bel) hbf hz (by omega) (by omega))
            rw [gb, gl, ga, if_pos rfl, if_pos rfl] at HG
            have d2 := B1.cell (i := 2) (by omega)
            have HB1 := hid1 B1
            dsimp [opf] at d2
            clear B1 c1 fk HCX HBX HP f0 f2 f3 f4 gb gl ga
            go_upto_region 25 with (go_at_call 10; refine HG.out.mono ?_; rintro e X3 ⟨bo, bc, rfl, -, ow, c4, fk⟩)
            have al : Below X3.heap.size X3 (X3.alloc (.cells #[.slice bo x.l.length bc, .int .i64 x.ag] 31)) := bl_alloc (Below.refl _ _) _
            have c5 := hid1 (c4.below al)
            have B5 := keepr al (fk.row HB1.out rfl)
            have r5 := rf_new X3 (.slice bo x.l.length bc) x.ag
            have HRS := results_any bo x.la x.l x.l bc x.lc x.ag x.ag (X3.alloc (.cells #[.slice bo x.l.length bc, .int .i64 x.ag] 31)) (by have := HNZ.out; omega) (ow.nms.below al) (HNM.out.below c5.out.bel)
            rw [decide_eq_true rfl, decide_eq_true rfl, Bool.true_and] at HRS
            have HRS' := hid1 HRS
            have g2 := B5.cell (i := 2) (by omega)
            have g3 := B5.cell (i := 3) (by omega)
            have g4 := B5.cell (i := 4) (by omega)
            have d0 := r5.cell (i := 0) (by omega)
            have d1 := r5.cell (i := 1) (by omega)
            dsimp [opf, rf] at g2 g3 g4 d0 d1
            clear HRS r5 B5 al ow c4 fk HG HB1 d2
            go_wp2_with (go_at_call 17; refine HRS'.out.mono ?_; rintro e X7 ⟨rfl, b7⟩)
            go_meet
            exact ⟨h + 1, m, _, by omega, m0, by omega, ivp.out, (c5.out.below b7).less fun _ h => h.elim⟩
          · rw [show puV x.k = 2 from if_neg hks, show puE r E x.k x.l x.ag = E from if_neg hks] at HP
            rw [show puE r E x.k x.l x.ag = E from if_neg hks] at ivp
            have gb := gt_long HIV.out hks
            have hk1 : ¬ (x.k.size : Int) ≤ 65536 := by omega
            clear hks
            go_upto_region 24 with (go_at_call 11; refine HP.out.mono ?_; rintro e X1 ⟨rfl, c1, fk⟩)
            have B1 := fk.row HBX.out rfl
            have HG := hid1 (cf_get c1 x.ka x.kc x.k (HKB.out.below c1.bel) hbf hz (by omega) (by omega))
            rw [gb, if_neg (by decide), if_neg (by decide)] at HG
            have d2 := B1.cell (i := 2) (by omega)
            have HB1 := hid1 B1
            dsimp [opf] at d2
            clear B1 c1 fk HCX HBX HP f0 f2 f3 f4 gb
            go_upto_region 25 with (go_at_call 10; refine HG.out.mono ?_; rintro e X3 ⟨bo, bc, rfl, -, ow, c4, fk⟩)
            have al : Below X3.heap.size X3 (X3.alloc (.cells #[.slice bo (gtL E x.k).length bc, .int .i64 (gtA E x.k)] 31)) := bl_alloc (Below.refl _ _) _
            have c5 := hid1 (c4.below al)
            have B5 := keepr al (fk.row HB1.out rfl)
            have g2 := B5.cell (i := 2) (by omega)
            dsimp [opf] at g2
            clear B5 al ow c4 fk HG HB1 d2
            go_wp2_with fail
            go_meet
            exact ⟨h, m + 1, _, h0, by omega, by omega, ivp.out, c5.out.less fun _ h => h.elim⟩
        by_cases k3 : kd = 3
        · subst k3
          have ivf := hid1 (HIV.out.forget HXK.out HKD.out)
          have HK := hid1 (cf_keys HCX.out)
          obtain ⟨q, hq⟩ : ∃ q, E.length = q := ⟨_, rfl⟩
          obtain ⟨q', hq'⟩ : ∃ q', (fgE E x.k).length = q' := ⟨_, rfl⟩
          have hqq : q' ≤ q := by have := fg_le E x.k; omega
          have hq1 : q ≤ 4096 := by omega
          have HQ := hid1 hq
          have HQ' := hid1 hq'
          clear hq hq' hlen
          go_upto_region 29 with (go_at_call 12; refine HK.out.mono ?_; rintro e X1 ⟨v, ss, rfl, kl, c1, fk⟩; obtain ⟨ko, kc, rfl, -⟩ := kl.form (n := q) (by rw [List.length_map, HQ.out]); clear kl)
          have B1 := fk.row HBX.out rfl
          have HG := hid1 (cf_forget c1 x.ka x.kc x.k (HKB.out.below c1.bel))
          rw [HQ.out, HQ'.out] at HG
          have d2 := B1.cell (i := 2) (by omega)
          dsimp [opf] at d2
          clear B1 c1 fk HCX HBX HK f0 f2 f3 f4
          go_upto_region 30 with (go_at_call 13; refine HG.out.mono ?_; rintro e X3 ⟨rfl, c4, -⟩)
          have HK2 := hid1 (cf_keys c4)
          clear c4 HG d2
          have i1 : ¬ ((q : Int) - (q' : Int) < 0) := by omega
          have i2 : ((q' : Int) != (q : Int) - ((q : Int) - (q' : Int))) = false := by rw [show (q : Int) - ((q : Int) - (q' : Int)) = q' by omega]; exact bne_self_eq_false _
          go_wp2_with (go_at_call 12; refine HK2.out.mono ?_; rintro e X5 ⟨v, ss, rfl, kl, c5, -⟩; obtain ⟨ko, kc, rfl, -⟩ := kl.form (n := q') (by rw [List.length_map, HQ'.out]); clear kl)
          go_meet
          exact ⟨h, m, _, h0, m0, by omega, ivf.out, c5.less fun _ h => h.elim⟩
        by_cases k6 : kd = 6
        · subst k6
          have HK := hid1 (cf_clear HCX.out)
          go_upto_region 34 with (go_at_call 14; refine HK.out.mono ?_; rintro e X1 ⟨rfl, c1, -⟩)
          have HK2 := hid1 (cf_keys c1)
          clear c1 HK HCX HBX f0 f2 f3 f4
          go_wp2_with (go_at_call 12; refine HK2.out.mono ?_; rintro e X5 ⟨v, ss, rfl, kl, c5, -⟩; obtain ⟨ko, kc, rfl, -⟩ := kl.form (n := 0) rfl; clear kl)
          go_meet
          exact ⟨h, m, _, h0, m0, by omega, Iv.nil _ _, c5.less fun _ h => h.elim⟩
        go_wp2_with fail
        go_meet
        exact ⟨h, m, E, h0, m0, by omega, HIV.out.rest HXK.out (by rw [HKD.out]; exact k2) (by rw [HKD.out]; exact k3) (by rw [HKD.out]; exact k6), HCX.out.less fun _ h => h.elim⟩
      case rest =>
        obtain ⟨h', m', E', h0', m0', hm', iv', c'⟩ := hcut
        clear HCX HBX f0 f2 f3 f4 hbf hnn HKB HNM HIV HXK e0 e1 e2 e3 e4 BA oc
        go_wp2_with fail
        exact ⟨⟨k + 1, h', m', E', by omega, by go_num, h0', m0', by omega, iv', c'⟩, by simp [intOf]; omega⟩
    · obtain rfl : k = n := by omega
      go_wp2_with fail
      go_ret
      exact ⟨rfl, c0.bel⟩
end Go.Proofs.Ytpjcpikafpnmpaa
