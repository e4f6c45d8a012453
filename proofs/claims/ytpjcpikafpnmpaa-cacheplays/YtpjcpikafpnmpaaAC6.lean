/- The document's cache: Forget, Keys, Stats, Clear, New. -/
import Derived.Test.YtpjcpikafpnmpaaAC5
namespace Go.Proofs.Ytpjcpikafpnmpaa
open Go.RowKit

/-- What Forget leaves. -/
def fgR (f : ByteArray) (R : List Re) : List Re := R.filter fun x => !pf f x.k
theorem fgR_step (f : ByteArray) (R : List Re) (i : Nat) (x : Re) (h : R[i]? = some x) : fgR f (R.take (i + 1)) = if pf f x.k = true then fgR f (R.take i) else fgR f (R.take i) ++ [x] := by
  unfold fgR
  rw [List.take_add_one, h, List.filter_append]
  by_cases e : pf f x.k = true <;> simp [e]
theorem fgR_len (f : ByteArray) (R : List Re) : (fgR f R).length ≤ R.length := List.length_filter_le _ _
theorem El.nil (w : World) (T : Nat → Prop) (base : Nat) : El w T base (.slice none 0 0) [] := ⟨World.ownsRow_nil _ _ _ _, by simp, fun g e => (by cases e), by simp⟩
/-- 'append' of a key. -/
theorem app_key {ops : Array Oper} {rest : List Oper} {o : Oper} {a : Act} {Q : Exit → Act → World → Prop} {w : World} (hg : o.guard = none) (s x : Operand)
    (hop : o.op = .call { callee := .builtin .append, args := #[s, x], argTypes := #[38, 38] }) (M : Nat) (v : Value) (ks : List ByteArray) (ss : List Value) (hs : a.eval s = v) (hown : Kl w M v ks ss)
    (y : Value) (k : ByteArray) (hy : Kb w M y k) (hne : ∀ u ∈ ss, u.ownBlock ≠ y.ownBlock) (ad : Addr) (hx : a.eval x = .slice (some ad) 1 1) (hc : w.cell? ad = some y) (hM : ks.length ≤ 16777216) (hb : M ≤ w.heap.size)
    (h : ∀ v' w', Kl w' M v' (ks ++ [k]) (ss ++ [y]) → w.grownBy w' v.ownBlock → wpList Try.prog ops Q rest (a.put o.dst v') w') : wpList Try.prog ops Q (o :: rest) a w :=
  wpList_plain hg fun K hK => by
    have := step_appK (ops := ops) (E := True) hg s x hop M v ks ss hs hown y k hy hne ad hx hc hM hb (K := K) (Q := Q) fun v' w' h1 h2 => hK _ _ (h v' w' h1 h2)
    rwa [if_pos (by simp [Region.wanted, hg])] at this
set_option maxHeartbeats 3200000 in
set_option maxRecDepth 100000 in
theorem rforget_any (w : World) (T : Nat → Prop) (d : Nat) (rm h m : Int) (v : Value) (R : List Re) (r : Rv w T d rm h m v R) (hlen : R.length ≤ 4096) (ao : Option Addr) (cap : Nat) (s : ByteArray) (hs : Bs w ao s) :
    Calls Try.prog 43 #[.pointer (some ⟨d, 0, none⟩), .slice ao s.size cap] w fun e w' => e = .returned (.int .i64 ((R.length : Int) - ((fgR s R).length : Int))) ∧ ∃ v', Rv w' (grown T w w') d rm h m v' (fgR s R) ∧ BP T w w' := by
  obtain ⟨n, en⟩ : ∃ n, R.length = n := ⟨_, rfl⟩
  have HR := hid1 r
  obtain ⟨vo, vc, rfl, -, -, hat⟩ := r.el.sl_at
  have b1 := r.box.cell (i := 1) (by omega)
  have k1 := r.box.frozen 1
  have hd := r.box.lt
  have HA := hid1 hat
  have HN := hid1 en
  have HS := hid1 hs
  rw [en] at hlen b1 ⊢
  dsimp only [rcf] at b1
  clear r hat en hs
  go_enter Try.func43, Try.ntmps43
  go_wp2_with fail
  go_loopw [5, 6, 7] (fun vl vj _ wr => ∃ j : Nat, j ≤ n ∧ vj = .int .i64 j ∧ wr.ownsRow w.heap.size 99 3 vl (fgR s (R.take j)).length (rcs (fgR s (R.take j))) ∧ Below w.heap.size w wr) (fun _ vj _ _ => n - (intOf vj).toNat)
  case atStart => exact ⟨0, Nat.zero_le _, rfl, World.ownsRow_nil _ _ _ _, Below.refl _ _⟩
  case round =>
    obtain ⟨j, hj, rfl, ow, bl⟩ := hrel
    have c1 := keepc bl b1
    by_cases hjn : j < n
    · have ij : (j : Int) < (n : Int) := by omega
      have ij0 : (0 : Int) ≤ (j : Int) := by omega
      obtain ⟨y, hy⟩ : ∃ y, R[j]? = some y := ⟨_, List.getElem?_eq_getElem (by rw [HN.out]; exact hjn)⟩
      have ks := fgR_step s R j y hy
      obtain ⟨g, yo, yn, yc, rfl, _, hyv, d0, d1, d2⟩ := HA.out j y hy
      replace d0 := keepc bl d0
      replace d1 := keepc bl d1
      replace d2 := keepc bl d2
      have hsz : (fgR s (R.take j)).length ≤ 100000 := by
        have h1 := fgR_len s (R.take j)
        rw [List.length_take] at h1
        omega
      have cv := conv_qt (cap := cap) (HS.out.below bl)
      clear hy
      have HSZ := hid1 hsz
      have hob : ∀ q, u5.ownBlock = some q → w.heap.size ≤ q := fun q e => (ow.lt q e).1
      have HBL := hid1 bl
      have HOW := hid1 ow
      have HOB := hid1 hob
      unfold pf at ks
      clear ow bl hsz hob
      by_cases hz : s.size ≤ y.k.size
      · rw [decide_eq_true hz, Bool.true_and] at ks
        have hz1 : ¬ (y.k.size : Int) < (s.size : Int) := by omega
        have hz2 : decide ((y.k.size : Int) < (s.size : Int)) = false := decide_eq_false hz1
        have hz3 : (s.size : Int) ≤ (y.k.size : Int) := by omega
        by_cases hks : y.k.extract 0 s.size = s
        · rw [if_pos (decide_eq_true hks)] at ks
          have KS := hid1 ks
          have hbe : ((y.k.extract 0 s.size).toList == s.toList) = true := by rw [str_eqb]; exact decide_eq_true hks
          clear ks hks hz
          go_upto_region 6 with fail
          go_quiet (fail)
          go_wp2_with fail
          have qq := hid1 (show Qt wr (wr.drewN nq) from ⟨nq, rfl⟩)
          exact ⟨⟨j + 1, by omega, by go_num, by rw [KS.out]; exact own_block HOW.out (fun b _ => by rw [heap_drewN]), qq.out.below HBL.out⟩, by simp [intOf]; omega⟩
        · rw [if_neg (by rw [decide_eq_false hks]; decide)] at ks
          have KS := hid1 ks
          have hbe : ((y.k.extract 0 s.size).toList == s.toList) = false := by rw [str_eqb]; exact decide_eq_false hks
          clear ks hks hz
          go_upto_region 6 with fail
          go_quiet (fail)
          have qq : Qt wr (wr.drewN nq) := ⟨nq, rfl⟩
          have OWZ := hid1 (own_block HOW.out (w' := wr.drewN nq) (fun b _ => by rw [heap_drewN]))
          have z1 := qq.cell c1
          have z2 := qq.cell d0
          have z3 := qq.cell d1
          have z4 := qq.cell d2
          have HBZ := hid1 (qq.below HBL.out)
          clear HOW HBL qq c1 d0 d1 d2 cv
          generalize wr.drewN nq = Z at *
          have al : Below Z.heap.size Z (Z.alloc (.cells #[.string y.k, .slice yo yn yc, .int .i64 y.a] 99)) := bl_alloc (Below.refl _ _) _
          have row := ent_row Z y.k (.slice yo yn yc) y.a
          have g0 := row.cell (i := 0) (by omega)
          have g1 := row.cell (i := 1) (by omega)
          have g2 := row.cell (i := 2) (by omega)
          dsimp only [ef3] at g0 g1 g2
          have hzz : w.heap.size ≤ (Z.alloc (.cells #[.string y.k, .slice yo yn yc, .int .i64 y.a] 99)).heap.size := Nat.le_trans HBZ.out.size al.size
          have HB := hid1 (fun (w' : World) (g : (Z.alloc (.cells #[.string y.k, .slice yo yn yc, .int .i64 y.a] 99)).grownBy w' u5.ownBlock) => (bl_step HBZ.out al).grown g hzz HOB.out)
          have SN := hid1 (own_block OWZ.out fun b e => al.block b (OWZ.out.lt b e).2)
          clear row al
          go_wp2_with (at_builtin; refine app_ent rfl _ _ rfl w.heap.size u5 _ (by go_simp) SN.out Z.heap.size (by go_simp) y yo yn yc hyv g0 g1 g2 HSZ.out hzz ?_; intro v' w' s2 gb)
          exact ⟨⟨j + 1, by omega, by go_num, by rw [KS.out]; exact s2, HB.out _ gb⟩, by simp [intOf]; omega⟩
      · rw [decide_eq_false hz, Bool.false_and, if_neg (by decide)] at ks
        have KS := hid1 ks
        have hz1 : (y.k.size : Int) < (s.size : Int) := by omega
        have hz2 : decide ((y.k.size : Int) < (s.size : Int)) = true := decide_eq_true hz1
        clear ks hz
        go_upto_region 6 with fail
        go_quiet (fail)
        have qq : Qt wr (wr.drewN nq) := ⟨nq, rfl⟩
        have OWZ := hid1 (own_block HOW.out (w' := wr.drewN nq) (fun b _ => by rw [heap_drewN]))
        have z1 := qq.cell c1
        have z2 := qq.cell d0
        have z3 := qq.cell d1
        have z4 := qq.cell d2
        have HBZ := hid1 (qq.below HBL.out)
        clear HOW HBL qq c1 d0 d1 d2 cv
        generalize wr.drewN nq = Z at *
        have al : Below Z.heap.size Z (Z.alloc (.cells #[.string y.k, .slice yo yn yc, .int .i64 y.a] 99)) := bl_alloc (Below.refl _ _) _
        have row := ent_row Z y.k (.slice yo yn yc) y.a
        have g0 := row.cell (i := 0) (by omega)
        have g1 := row.cell (i := 1) (by omega)
        have g2 := row.cell (i := 2) (by omega)
        dsimp only [ef3] at g0 g1 g2
        have hzz : w.heap.size ≤ (Z.alloc (.cells #[.string y.k, .slice yo yn yc, .int .i64 y.a] 99)).heap.size := Nat.le_trans HBZ.out.size al.size
        have HB := hid1 (fun (w' : World) (g : (Z.alloc (.cells #[.string y.k, .slice yo yn yc, .int .i64 y.a] 99)).grownBy w' u5.ownBlock) => (bl_step HBZ.out al).grown g hzz HOB.out)
        have SN := hid1 (own_block OWZ.out fun b e => al.block b (OWZ.out.lt b e).2)
        clear row al
        go_wp2_with (at_builtin; refine app_ent rfl _ _ rfl w.heap.size u5 _ (by go_simp) SN.out Z.heap.size (by go_simp) y yo yn yc hyv g0 g1 g2 HSZ.out hzz ?_; intro v' w' s2 gb)
        exact ⟨⟨j + 1, by omega, by go_num, by rw [KS.out]; exact s2, HB.out _ gb⟩, by simp [intOf]; omega⟩
    · obtain rfl : j = n := by omega
      rw [List.take_of_length_le (by rw [HN.out]; exact Nat.le_refl _)] at ow
      obtain ⟨a5, c5, rfl⟩ := own_sl ow
      have k2 : wr.frozen? ⟨d, 1, none⟩ = false := (bl.frozen (p := ⟨d, 1, none⟩) hd).trans k1
      have HE := hid1 (And.intro bl ow)
      have hqn : (fgR s R).length ≤ j := by have := fgR_len s R; rw [HN.out] at this; exact this
      clear ow bl
      obtain ⟨q, hq⟩ : ∃ q, (fgR s R).length = q := ⟨_, rfl⟩
      have HQ := hid1 hq
      rw [hq] at hqn
      simp only [hq]
      clear hq
      go_wp2_with fail
      go_ret
      obtain ⟨bl, ow⟩ := HE.out
      rw [HQ.out] at ow
      have rW := HR.out.below bl
      refine ⟨by rw [HQ.out]; rfl, _, rW.setL (T' := grown T w (wr.setCell ⟨d, 1, none⟩ (.slice a5 q c5))) (.inl HR.out.sd) ⟨?_, fun x hx => rW.el.lg x (List.mem_filter.1 hx).1, fun g e => .inr ?_, fun x hx g e => .inl (HR.out.el.sl x (List.mem_filter.1 hx).1 g e)⟩, (BP.bel bl).setA (a := ⟨d, 1, none⟩) HR.out.sd _⟩
      · rw [HQ.out]
        exact own_base ow (Nat.zero_le _)
      · simpa using ow.lt g e
set_option maxHeartbeats 1600000 in
set_option maxRecDepth 100000 in
theorem rkeys_any (w : World) (T : Nat → Prop) (d : Nat) (rm h m : Int) (v : Value) (R : List Re) (r : Rv w T d rm h m v R) (hlen : R.length ≤ 4096) :
    Calls Try.prog 44 #[.pointer (some ⟨d, 0, none⟩)] w fun e w' => ∃ u ss, e = .returned u ∧ Kl w' w.heap.size u (R.map (·.k)) ss ∧ Below w.heap.size w w' := by
  obtain ⟨n, en⟩ : ∃ n, R.length = n := ⟨_, rfl⟩
  obtain ⟨vo, vc, rfl, -, -, hat⟩ := r.el.sl_at
  have b1 := r.box.cell (i := 1) (by omega)
  have HA := hid1 hat
  have HN := hid1 en
  rw [en] at hlen b1
  dsimp only [rcf] at b1
  clear r hat en
  go_enter Try.func44, Try.ntmps44
  go_wp2_with fail
  go_loopw [3, 4] (fun vl vj wr => ∃ (j : Nat) (ss : List Value), j ≤ n ∧ vj = .int .i64 j ∧ Kl wr w.heap.size vl ((R.map (·.k)).take j) ss ∧ Below w.heap.size w wr) (fun _ vj _ => n - (intOf vj).toNat)
  case atStart => exact ⟨0, [], Nat.zero_le _, rfl, ⟨rfl, World.ownsRow_nil _ _ _ _, fun i k s hk => by simp at hk, fun i j a b _ ha => by simp at ha⟩, Below.refl _ _⟩
  case round =>
    obtain ⟨j, ss, hj, rfl, kl, bl⟩ := hrel
    have c1 := keepc bl b1
    by_cases hjn : j < n
    · have ij : (j : Int) < (n : Int) := by omega
      have ij0 : (0 : Int) ≤ (j : Int) := by omega
      obtain ⟨y, hy⟩ : ∃ y, R[j]? = some y := ⟨_, List.getElem?_eq_getElem (by rw [HN.out]; exact hjn)⟩
      obtain ⟨g, yo, yn, yc, rfl, _, hyv, d0, d1, d2⟩ := HA.out j y hy
      replace d0 := keepc bl d0
      have KS : Hid ((R.map (·.k)).take (j + 1) = (R.map (·.k)).take j ++ [y.k]) := by
        have : (R.map (·.k))[j]? = some y.k := by rw [List.getElem?_map, hy]; rfl
        exact hid1 (by rw [List.take_add_one, this]; rfl)
      obtain ⟨cp, bw, hcv, hbw⟩ := conv_bytes y.k
      have hcv1 := hcv wr
      obtain ⟨b2, z2, kb⟩ := hbw wr
      clear hcv hbw hy d1 d2 hyv
      generalize cp wr = cc at *
      generalize bw wr = Y at *
      have al : Below Y.heap.size Y (Y.alloc (.cells #[.slice (some ⟨wr.heap.size, 0, none⟩) y.k.size cc] 28)) := bl_alloc (Below.refl _ _) _
      have hcn := new_cell Y (.slice (some ⟨wr.heap.size, 0, none⟩) y.k.size cc) 28
      have hzz : w.heap.size ≤ (Y.alloc (.cells #[.slice (some ⟨wr.heap.size, 0, none⟩) y.k.size cc] 28)).heap.size := Nat.le_trans bl.size (Nat.le_trans b2.size al.size)
      have KLN := hid1 ((kl.below b2).below al)
      have HKB := hid1 (show Kb (Y.alloc (.cells #[.slice (some ⟨wr.heap.size, 0, none⟩) y.k.size cc] 28)) w.heap.size (.slice (some ⟨wr.heap.size, 0, none⟩) y.k.size cc) y.k from by
        obtain ⟨g, cap, C, e, h1, h2⟩ := kb.block (w' := Y.alloc (.cells #[.slice (some ⟨wr.heap.size, 0, none⟩) y.k.size cc] 28)) fun b e => al.block b (kb.lt b e).2
        exact ⟨g, cap, C, e, Nat.le_trans bl.size h1, h2⟩)
      have HNE : Hid (∀ u ∈ ss, u.ownBlock ≠ (Value.slice (some ⟨wr.heap.size, 0, none⟩) y.k.size cc).ownBlock) := fun u hu e => by
        obtain ⟨i, hi, eu⟩ := List.mem_iff_getElem.1 hu
        have hl := kl.len
        obtain ⟨k, hk⟩ : ∃ k, ((R.map (·.k)).take j)[i]? = some k := ⟨_, List.getElem?_eq_getElem (by omega)⟩
        have h1 := (kl.key i k u hk (by rw [← eu]; exact List.getElem?_eq_getElem hi)).lt _ e
        exact absurd h1.2 (Nat.lt_irrefl _)
      have hlk : ((R.map (·.k)).take j).length ≤ 16777216 := by rw [List.length_take]; omega
      have HLK := hid1 hlk
      have hob := hid1 (show ∀ q, u3.ownBlock = some q → w.heap.size ≤ q from fun q e => (kl.out.lt q e).1)
      have HB := hid1 (fun (w' : World) (g : (Y.alloc (.cells #[.slice (some ⟨wr.heap.size, 0, none⟩) y.k.size cc] 28)).grownBy w' u3.ownBlock) => (bl_step (bl_step bl b2) al).grown g hzz hob.out)
      clear kl bl kb al hlk b2 z2
      go_wp2_with (at_builtin; refine app_key rfl _ _ rfl w.heap.size u3 _ ss (by go_simp) KLN.out (.slice (some ⟨wr.heap.size, 0, none⟩) y.k.size cc) y.k HKB.out HNE.out _ (by go_simp) hcn HLK.out hzz ?_; intro v' w' s2 gb)
      exact ⟨⟨j + 1, _, by omega, by go_num, by rw [KS.out]; exact s2, HB.out _ gb⟩, by simp [intOf]; omega⟩
    · obtain rfl : j = n := by omega
      rw [List.take_of_length_le (by rw [List.length_map, HN.out]; exact Nat.le_refl _)] at kl
      have HE := hid1 (And.intro kl bl)
      clear kl bl
      go_wp2_with fail
      go_ret
      exact ⟨_, ss, rfl, HE.out.1, HE.out.2⟩
set_option maxRecDepth 100000 in
theorem rstats_any (w : World) (T : Nat → Prop) (d : Nat) (rm h m : Int) (v : Value) (R : List Re) (r : Rv w T d rm h m v R) :
    Calls Try.prog 45 #[.pointer (some ⟨d, 0, none⟩)] w fun e w' => e = .returned (.tuple #[.int .i64 h, .int .i64 m]) ∧ Qt w w' := by
  have b2 := r.box.cell (i := 2) (by omega)
  have b3 := r.box.cell (i := 3) (by omega)
  dsimp only [rcf] at b2 b3
  clear r
  go_enter Try.func45, Try.ntmps45
  go_upto_region 1 with fail
  go_quiet (fail)
  go_wp2_with fail
  go_ret2
  exact ⟨rfl, ⟨nq, rfl⟩⟩
set_option maxRecDepth 100000 in
theorem rclear_any (w : World) (T : Nat → Prop) (d : Nat) (rm h m : Int) (v : Value) (R : List Re) (r : Rv w T d rm h m v R) :
    Calls Try.prog 46 #[.pointer (some ⟨d, 0, none⟩)] w fun e w' => e = .returned (.tuple #[]) ∧ Rv w' T d rm h m (.slice none 0 0) [] ∧ BP T w w' := by
  obtain ⟨vo, vc, rfl, -, -, -⟩ := r.el.sl_at
  have b1 := r.box.cell (i := 1) (by omega)
  have k1 := r.box.frozen 1
  have HR := hid1 (And.intro (r.setL r.sd (El.nil w T 0)) ((BP.refl T w).setA (a := ⟨d, 1, none⟩) r.sd (.slice none 0 0)))
  dsimp only [rcf] at b1
  clear r
  go_enter Try.func46, Try.ntmps46
  go_wp2_with fail
  exact bodyPost_end (results_none rfl _ _ _) rfl ⟨rfl, HR.out⟩
set_option maxRecDepth 100000 in
theorem rnew_ok (rm : Int) (h1 : 1 ≤ rm) (h2 : rm ≤ 4096) (w : World) :
    Calls Try.prog 25 #[.int .i64 rm] w fun e w' => ∃ d, e = .returned (.tuple #[.pointer (some ⟨d, 0, none⟩), .int .i64 0]) ∧ w.heap.size ≤ d ∧ Rv w' (fun k => k = d) d rm 0 0 (.slice none 0 0) [] ∧ Below w.heap.size w w' := by
  have i1 : ¬ rm < 1 := by omega
  have i2 : ¬ 4096 < rm := by omega
  go_enter Try.func25, Try.ntmps25
  go_wp2_with fail
  go_ret2
  refine ⟨w.heap.size, rfl, Nat.le_refl _, ⟨?_, El.nil _ _ _, rfl⟩, bl_alloc (Below.refl _ _) _⟩
  exact World.rowIs_alloc w #[.int .i64 rm, .slice none 0 0, .int .i64 0, .int .i64 0] 94 (rcf rm (.slice none 0 0) 0 0) (fun i hi => by rcases i with _ | _ | _ | _ | i <;> first | rfl | (simp at hi; omega))
set_option maxRecDepth 100000 in
theorem rnew_bad (rm : Int) (h1 : ¬ (1 ≤ rm ∧ rm ≤ 4096)) (w : World) :
    Calls Try.prog 25 #[.int .i64 rm] w fun e w' => e = .returned (.tuple #[.pointer none, .int .i64 1]) ∧ w' = w := by
  by_cases h : rm < 1
  · go_enter Try.func25, Try.ntmps25
    go_wp2_with fail
    go_ret2
    exact ⟨rfl, rfl⟩
  · have h2 : 4096 < rm := by omega
    clear h1
    go_enter Try.func25, Try.ntmps25
    go_wp2_with fail
    go_ret2
    exact ⟨rfl, rfl⟩
end Go.Proofs.Ytpjcpikafpnmpaa
