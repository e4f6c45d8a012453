/- The last Put of a key. -/
import Derived.Test.YtpjcpikafpnmpaaAK28
namespace Go.Proofs.Ytpjcpikafpnmpaa
open Go.RowKit

/-- What a step makes of what is known of a key. -/
def knS (s : ByteArray) (st : Option Oq) (o : Oq) : Option Oq :=
  if o.kd = 2 then (if o.k = s ∧ o.k.size ≤ 65536 then some o else st)
  else if o.kd = 3 then (if pf o.k s = true then none else st)
  else if o.kd = 6 then none else st
def kn (xs : List Oq) (s : ByteArray) : Option Oq := xs.foldl (knS s) none
theorem kn_step (xs : List Oq) (s : ByteArray) (i : Nat) (o : Oq) (h : xs[i]? = some o) : kn (xs.take (i + 1)) s = knS s (kn (xs.take i) s) o := by
  unfold kn
  rw [List.take_add_one, h, List.foldl_append]
  rfl
/-- known under way. -/
def KnJ (w : World) (st : Option Oq) (W : World) : Prop :=
  ∃ bo bm bc a, W.rowIs (w.heap.size + 1) 31 2 (rf (.slice bo bm bc) a) ∧ (∀ o, st = some o → bo = o.la ∧ bm = o.l.length ∧ bc = o.lc ∧ a = o.ag) ∧ W.rowIs w.heap.size 31 2 (rf (.slice none 0 0) 0) ∧ Below w.heap.size w W
theorem KnJ.below {w W W' : World} {st : Option Oq} (h : KnJ w st W) (hb : Below W.heap.size W W') : KnJ w st W' := by
  obtain ⟨bo, bm, bc, a, r1, r2, r3, r4⟩ := h
  exact ⟨bo, bm, bc, a, keepr hb r1, r2, keepr hb r3, bl_step r4 hb⟩
theorem rf_set {w : World} {b t : Nat} {v : Value} {a : Int} (r : w.rowIs b t 2 (rf v a)) (v' : Value) (a' : Int) : ((w.setCell ⟨b, 0, none⟩ v').setCell ⟨b, 1, none⟩ (.int .i64 a')).rowIs b t 2 (rf v' a') :=
  ((r.set 0 v').set 1 (.int .i64 a')).congr fun i hi => by
    rcases i with _ | _ | i
    · rfl
    · rfl
    · omega
theorem KnJ.put {w W : World} {st : Option Oq} (h : KnJ w st W) (o : Oq) : KnJ w (some o) ((W.setCell ⟨w.heap.size + 1, 0, none⟩ (.slice o.la o.l.length o.lc)).setCell ⟨w.heap.size + 1, 1, none⟩ (.int .i64 o.ag)) := by
  obtain ⟨bo, bm, bc, a, r1, r2, r3, r4⟩ := h
  refine ⟨_, _, _, _, rf_set r1 _ _, fun o' e => ?_, (r3.setOther (a := ⟨w.heap.size + 1, 0, none⟩) (show w.heap.size ≠ w.heap.size + 1 by omega) _).setOther (a := ⟨w.heap.size + 1, 1, none⟩) (show w.heap.size ≠ w.heap.size + 1 by omega) _, ?_⟩
  · injection e with e; subst e
    exact ⟨rfl, rfl, rfl, rfl⟩
  · exact (r4.setCell (p := ⟨w.heap.size + 1, 0, none⟩) (show w.heap.size ≤ w.heap.size + 1 by omega) _).setCell (p := ⟨w.heap.size + 1, 1, none⟩) (show w.heap.size ≤ w.heap.size + 1 by omega) _
theorem KnJ.less {w W : World} {st : Option Oq} (h : KnJ w st W) : KnJ w none W := by
  obtain ⟨bo, bm, bc, a, r1, r2, r3, r4⟩ := h
  exact ⟨bo, bm, bc, a, r1, (fun _ e => nomatch e), r3, r4⟩
set_option maxHeartbeats 3200000 in
set_option maxRecDepth 100000 in
theorem known_any (w w0 : World) (ao : Option Addr) (xs : List Oq) (cap : Nat) (hl : xs.length ≤ 1954687338211) (hx : Lo w0 ao xs) (hw : Below w0.heap.size w0 w) (j : Nat) (hj : j ≤ xs.length) (s : ByteArray) :
    Calls Try.prog 16 #[.slice ao xs.length cap, .int .i64 j, .string s] w fun e w' => ∃ bo bm bc a, e = .returned (.tuple #[rsv (.slice bo bm bc) a, .bool (kn (xs.take j) s).isSome]) ∧ (∀ o, kn (xs.take j) s = some o → bo = o.la ∧ bm = o.l.length ∧ bc = o.lc ∧ a = o.ag) ∧ Below w.heap.size w w' := by
  obtain ⟨n, hn⟩ : ∃ n, xs.length = n := ⟨_, rfl⟩
  have HX := hid1 hx
  have HN := hid1 hn
  have HW := hid1 hw
  rw [hn] at hl hj ⊢
  clear hx hn hw
  go_enter Try.func16, Try.ntmps16
  go_upto_region 2 with fail
  refine gen_world (fun X => KnJ w none X) ⟨none, 0, 0, 0, ?_, (fun _ e => nomatch e), ?_, ?_⟩ ?_
  · have := rf_new (w.alloc (.cells #[.slice none 0 0, .int .i64 0] 31)) (.slice none 0 0) 0
    rwa [World.size_alloc] at this
  · exact (rf_new w (.slice none 0 0) 0).alloc _
  · exact bl_alloc (bl_alloc (Below.refl _ _) _) _
  rintro X kj
  have HK := hid1 kj
  clear kj
  go_wp2_with fail
  go_loopw [9, 10] (fun vb vi wr => ∃ i : Nat, i ≤ j ∧ vi = .int .i64 i ∧ vb = .bool (kn (xs.take i) s).isSome ∧ KnJ w (kn (xs.take i) s) wr) (fun _ vi _ => j - (intOf vi).toNat)
  case atStart => exact ⟨0, Nat.zero_le _, rfl, rfl, HK.out⟩
  case round =>
    clear HK
    obtain ⟨i, hi, rfl, rfl, kj⟩ := hrel
    by_cases hlt : i < j
    · have ik : (i : Int) < (j : Int) := by omega
      have ik0 : (0 : Int) ≤ (i : Int) := by omega
      have ikn : (i : Int) < (n : Int) := by omega
      obtain ⟨x, hxk⟩ : ∃ x, xs[i]? = some x := ⟨_, List.getElem?_eq_getElem (by rw [HN.out]; omega)⟩
      have ks := kn_step xs s i x hxk
      obtain ⟨g, o, rfl, oc⟩ := HX.out i x hxk
      have hbw : Below w0.heap.size w0 wr := by
        obtain ⟨_, _, _, _, -, -, -, r4⟩ := kj
        exact bl_step HW.out r4
      have e0 := keepc hbw oc.c0
      have e1 := keepc hbw oc.c1
      have e2 := keepc hbw oc.c2
      have e3 := keepc hbw oc.c3
      have e4 := keepc hbw oc.c4
      have BX := op_new wr x
      have BA : Below wr.heap.size wr (wr.alloc (.cells #[.int .i64 x.kd, .int .i64 x.on, .slice x.ka x.k.size x.kc, .slice x.la x.l.length x.lc, .int .i64 x.ag] 33)) := bl_alloc (Below.refl _ _) _
      have cv := conv_str (cap := x.kc) (oc.kb.below (bl_step hbw BA))
      have HKJ := hid1 (kj.below BA)
      have f0 := BX.cell (i := 0) (by omega)
      have f2 := BX.cell (i := 2) (by omega)
      have f3 := BX.cell (i := 3) (by omega)
      have f4 := BX.cell (i := 4) (by omega)
      dsimp [opf] at f0 f2 f3 f4
      clear kj hxk BX oc hbw
      unfold knS at ks
      generalize kn (xs.take i) s = st at *
      obtain ⟨st', hst'⟩ : ∃ st', kn (xs.take (i + 1)) s = st' := ⟨_, rfl⟩
      rw [hst'] at ks
      have HST := hid1 hst'
      clear hst'
      obtain ⟨bo, bm, bc, a, r1, -, -, -⟩ := id HKJ.out
      have d0 := r1.cell (i := 0) (by omega)
      have d1 := r1.cell (i := 1) (by omega)
      have k0 := r1.frozen 0
      have k1 := r1.frozen 1
      dsimp only [rf] at d0 d1
      clear r1
      obtain ⟨bs, hbs⟩ : ∃ bs, st.isSome = bs := ⟨_, rfl⟩
      have HBS := hid1 hbs
      simp only [hbs]
      clear hbs
      generalize x.kd = kd at *
      go_upto_block 1 with fail
      go_cut [9, 11, 12] from 18 to 55 (fun vb _ _ wx => vb = .bool st'.isSome ∧ KnJ w st' wx)
      case first =>
        go_upto_region 7 with fail
        clear HX e0 e1 e2 e3 e4 BA
        generalize wr.alloc (.cells #[.int .i64 kd, .int .i64 x.on, .slice x.ka x.k.size x.kc, .slice x.la x.l.length x.lc, .int .i64 x.ag] 33) = X at *
        by_cases k2 : kd = 2
        · subst k2
          rw [if_pos rfl] at ks
          by_cases hks : x.k = s
          · subst hks
            have hbe : (x.k.toList == x.k.toList) = true := by rw [str_eqb]; exact decide_eq_true rfl
            by_cases hz : x.k.size ≤ 65536
            · rw [if_pos ⟨rfl, hz⟩] at ks
              subst ks
              have hz1 : (x.k.size : Int) ≤ 65536 := by omega
              go_wp2_with fail
              go_meet
              exact ⟨rfl, HKJ.out.put x⟩
            · rw [if_neg (fun h => hz h.2)] at ks
              subst ks
              have hz1 : ¬ (x.k.size : Int) ≤ 65536 := by omega
              go_wp2_with fail
              go_meet
              exact ⟨by rw [HBS.out], HKJ.out⟩
          · rw [if_neg (fun h => hks h.1)] at ks
            subst ks
            have hbe : (x.k.toList == s.toList) = false := by rw [str_eqb]; exact decide_eq_false hks
            go_wp2_with fail
            go_meet
            exact ⟨by rw [HBS.out], HKJ.out⟩
        rw [if_neg k2] at ks
        by_cases k3 : kd = 3
        · subst k3
          rw [if_pos rfl] at ks
          unfold pf at ks
          by_cases hz : x.k.size ≤ s.size
          · rw [decide_eq_true hz, Bool.true_and] at ks
            have hz1 : (x.k.size : Int) ≤ (s.size : Int) := by omega
            by_cases hks : s.extract 0 x.k.size = x.k
            · rw [if_pos (decide_eq_true hks)] at ks
              subst ks
              have hbe : ((s.extract 0 x.k.size).toList == x.k.toList) = true := by rw [str_eqb]; exact decide_eq_true hks
              clear hks
              go_wp2_with fail
              go_meet
              exact ⟨rfl, HKJ.out.less⟩
            · rw [if_neg (by rw [decide_eq_false hks]; decide)] at ks
              subst ks
              have hbe : ((s.extract 0 x.k.size).toList == x.k.toList) = false := by rw [str_eqb]; exact decide_eq_false hks
              clear hks
              go_wp2_with fail
              go_meet
              exact ⟨by rw [HBS.out], HKJ.out⟩
          · rw [decide_eq_false hz, Bool.false_and, if_neg (by decide)] at ks
            subst ks
            have hz1 : ¬ (x.k.size : Int) ≤ (s.size : Int) := by omega
            go_wp2_with fail
            go_meet
            exact ⟨by rw [HBS.out], HKJ.out⟩
        rw [if_neg k3] at ks
        by_cases k6 : kd = 6
        · subst k6
          rw [if_pos rfl] at ks
          subst ks
          go_wp2_with fail
          go_meet
          exact ⟨rfl, HKJ.out.less⟩
        rw [if_neg k6] at ks
        subst ks
        go_wp2_with fail
        go_meet
        exact ⟨by rw [HBS.out], HKJ.out⟩
      case rest =>
        obtain ⟨rfl, kj⟩ := hcut
        clear e0 e1 e2 e3 e4 BA f0 f2 f3 f4 cv d0 d1 k0 k1 ks HKJ
        go_wp2_with fail
        exact ⟨⟨i + 1, by omega, by go_num, by rw [HST.out], by rw [HST.out]; exact kj⟩, by simp [intOf]; omega⟩
    · obtain rfl : i = j := by omega
      obtain ⟨bo, bm, bc, a, r1, r2, r3, r4⟩ := kj
      have d0 := r1.cell (i := 0) (by omega)
      have d1 := r1.cell (i := 1) (by omega)
      have c0 := r3.cell (i := 0) (by omega)
      have c1 := r3.cell (i := 1) (by omega)
      have k0 := r3.frozen 0
      have k1 := r3.frozen 1
      dsimp only [rf] at d0 d1 c0 c1
      have HR := hid1 r2
      have HB := hid1 (show Below w.heap.size w ((wr.setCell ⟨w.heap.size, 0, none⟩ (.slice bo bm bc)).setCell ⟨w.heap.size, 1, none⟩ (.int .i64 a)) from (r4.setCell (p := ⟨w.heap.size, 0, none⟩) (Nat.le_refl _) _).setCell (p := ⟨w.heap.size, 1, none⟩) (Nat.le_refl _) _)
      have r5 := rf_set r3 (.slice bo bm bc) a
      have c2 := r5.cell (i := 0) (by omega)
      have c3 := r5.cell (i := 1) (by omega)
      dsimp only [rf] at c2 c3
      clear r1 r2 r3 r4 r5
      go_wp2_with fail
      refine ⟨rfl, .tuple #[rsv (.slice bo bm bc) a, .bool (kn (xs.take i) s).isSome], ?_, bo, bm, bc, a, rfl, HR.out, HB.out⟩
      simp [results, Try.results16, go_sem, c2, c3]
end Go.Proofs.Ytpjcpikafpnmpaa
