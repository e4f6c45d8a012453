/- CacheCounts. -/
import Derived.Test.YtpjcpikafpnmpaaAK25
import Derived.Deep.CutBlock
namespace Go.Proofs.Ytpjcpikafpnmpaa
open Go.RowKit

/-- A step's copy. -/
def opf (x : Oq) : Nat → Value := fun i => if i = 0 then .int .i64 x.kd else if i = 1 then .int .i64 x.on else if i = 2 then .slice x.ka x.k.size x.kc else if i = 3 then .slice x.la x.l.length x.lc else .int .i64 x.ag
theorem op_new (w : World) (x : Oq) : (w.alloc (.cells #[.int .i64 x.kd, .int .i64 x.on, .slice x.ka x.k.size x.kc, .slice x.la x.l.length x.lc, .int .i64 x.ag] 33)).rowIs w.heap.size 33 5 (opf x) :=
  World.rowIs_alloc w _ _ _ fun i hi => by
    rcases i with _ | _ | _ | _ | _ | i
    · rfl
    · rfl
    · rfl
    · rfl
    · rfl
    · exact absurd hi (by show ¬ (i + 5 < 5); omega)
set_option maxHeartbeats 3200000 in
set_option maxRecDepth 100000 in
theorem cacheCounts_any (w : World) (room : Int) (ao : Option Addr) (xs : List Oq) (cap : Nat) (hl : xs.length ≤ 1954687338211) (hx : Lo w ao xs) :
    Calls Try.prog 4 #[.int .i64 room, .slice ao xs.length cap] w fun e w' => e = .returned (.bool true) ∧ Below w.heap.size w w' := by
  obtain ⟨n, hn⟩ : ∃ n, xs.length = n := ⟨_, rfl⟩
  have HX := hid1 hx
  have HN := hid1 hn
  rw [hn] at hl ⊢
  clear hx hn
  go_enter Try.func4, Try.ntmps4
  go_upto_region 2 with (go_at_call 8; refine (begun_any w).mono ?_; rintro e w1 ⟨rfl, B1⟩)
  have HM := hid1 (cf_made room B1 (F := fun _ => False) (fun _ h => h.elim))
  clear B1
  go_wp2_with (go_at_call 9; refine HM.out.mono ?_; rintro e w2 ⟨p, bm, rfl, c2, -⟩)
  have HC2 := hid1 c2
  clear c2 HM
  go_loopw [7, 8, 9] (fun vh vm vi wr => ∃ (k : Nat) (h m : Int) (E : List En), k ≤ n ∧ vi = .int .i64 k ∧ vh = .int .i64 h ∧ vm = .int .i64 m ∧ 0 ≤ h ∧ 0 ≤ m ∧ h + m ≤ k ∧ Cf w wr (fun _ => False) p (rmo room) bm h m E) (fun _ _ vi _ => n - (intOf vi).toNat)
  case atStart => exact ⟨0, 0, 0, [], Nat.zero_le _, rfl, rfl, rfl, by omega, by omega, by omega, HC2.out⟩
  case round =>
    clear HC2
    obtain ⟨k, h, m, E, hk, rfl, rfl, rfl, h0, m0, hm, c0⟩ := hrel
    by_cases hlt : k < n
    · have ik : (k : Int) < (n : Int) := by omega
      have ik0 : (0 : Int) ≤ (k : Int) := by omega
      obtain ⟨x, hxk⟩ : ∃ x, xs[k]? = some x := ⟨_, List.getElem?_eq_getElem (by rw [HN.out]; exact hlt)⟩
      obtain ⟨g, o, rfl, oc⟩ := HX.out k x hxk
      have e0 := keepc c0.bel oc.c0
      have e1 := keepc c0.bel oc.c1
      have e2 := keepc c0.bel oc.c2
      have e3 := keepc c0.bel oc.c3
      have e4 := keepc c0.bel oc.c4
      have HOC := hid1 oc
      have hz : x.k.size ≤ 9223372036854775807 := by have := oc.kz; omega
      have hM : x.l.length * 8 ≤ 140737488355328 := by have := oc.nz; omega
      have HC0 := hid1 c0
      clear c0 hxk
      have BX := op_new wr x
      have BA : Below wr.heap.size wr (wr.alloc (.cells #[.int .i64 x.kd, .int .i64 x.on, .slice x.ka x.k.size x.kc, .slice x.la x.l.length x.lc, .int .i64 x.ag] 33)) := bl_alloc (Below.refl _ _) _
      have HCX := hid1 (HC0.out.below BA)
      have HKB := hid1 (oc.kb.below (HC0.out.below BA).bel)
      have f0 := BX.cell (i := 0) (by omega)
      have f2 := BX.cell (i := 2) (by omega)
      have f3 := BX.cell (i := 3) (by omega)
      have f4 := BX.cell (i := 4) (by omega)
      dsimp [opf] at f0 f2 f3 f4
      go_upto_block 2 with fail
      clear e0 e1 e2 e3 e4 BX BA
      generalize wr.alloc (.cells #[.int .i64 x.kd, .int .i64 x.on, .slice x.ka x.k.size x.kc, .slice x.la x.l.length x.lc, .int .i64 x.ag] 33) = X at *
      go_cut [7, 8, 11, 12] from 36 to 71 (fun vh vm _ _ wx => ∃ (h' m' : Int) (E' : List En), vh = .int .i64 h' ∧ vm = .int .i64 m' ∧ 0 ≤ h' ∧ 0 ≤ m' ∧ h' + m' ≤ k + 1 ∧ Cf w wx (fun _ => False) p (rmo room) bm h' m' E')
      case first =>
        have hbf := oc.kb.bf (fun _ => False)
        have hnn := oc.nn
        have HNM := hid1 (oc.nm.below HCX.out.bel)
        clear oc HOC
        generalize x.kd = kd at *
        by_cases k1 : kd = 1
        · subst k1
          have HG := hid1 (cf_get HCX.out x.ka x.kc x.k HKB.out hbf hz (by omega) (by omega))
          cases hb : gtB E x.k
          · rw [hb] at HG
            go_wp2_with (go_at_call 10; refine HG.out.mono ?_; rintro e X1 ⟨bo, bc, rfl, -, -, c1, -⟩)
            go_meet
            exact ⟨h, m + 1, _, rfl, by go_num, h0, by omega, by omega, c1.below (bl_alloc (Below.refl _ _) _)⟩
          · rw [hb] at HG
            go_wp2_with (go_at_call 10; refine HG.out.mono ?_; rintro e X1 ⟨bo, bc, rfl, -, -, c1, -⟩)
            go_meet
            exact ⟨h + 1, m, _, by go_num, rfl, by omega, m0, by omega, c1.below (bl_alloc (Below.refl _ _) _)⟩
        by_cases k2 : kd = 2
        · subst k2
          have HG := hid1 (cf_put HCX.out x.ka x.kc x.k HKB.out hbf x.la x.lc x.l x.ag hnn HNM.out hM)
          go_wp2_with (go_at_call 11; refine HG.out.mono ?_; rintro e X1 ⟨rfl, c1, -⟩)
          go_meet
          exact ⟨h, m, _, rfl, rfl, h0, m0, by omega, c1⟩
        by_cases k3 : kd = 3
        · subst k3
          have HG := hid1 (cf_forget HCX.out x.ka x.kc x.k HKB.out)
          go_wp2_with (go_at_call 13; refine HG.out.mono ?_; rintro e X1 ⟨rfl, c1, -⟩)
          go_meet
          exact ⟨h, m, _, rfl, rfl, h0, m0, by omega, c1⟩
        by_cases k4 : kd = 4
        · subst k4
          have HG := hid1 (cf_keys HCX.out)
          go_wp2_with (go_at_call 12; refine HG.out.mono ?_; rintro e X1 ⟨v, ss, rfl, -, c1, -⟩)
          go_meet
          exact ⟨h, m, _, rfl, rfl, h0, m0, by omega, c1⟩
        by_cases k6 : kd = 6
        · subst k6
          have HG := hid1 (cf_clear HCX.out)
          go_wp2_with (go_at_call 14; refine HG.out.mono ?_; rintro e X1 ⟨rfl, c1, -⟩)
          go_meet
          exact ⟨h, m, _, rfl, rfl, h0, m0, by omega, c1⟩
        go_wp2_with fail
        go_meet
        exact ⟨h, m, _, rfl, rfl, h0, m0, by omega, HCX.out⟩
      case rest =>
        obtain ⟨h', m', E', rfl, rfl, h0', m0', hm', cY⟩ := hcut
        have HG := hid1 (cf_stats cY)
        clear cY oc f0 f2 f3 f4 HCX
        rename World => Y
        go_upto_region 25 with fail
        go_wp2_with (go_at_call 15; refine HG.out.mono ?_; rintro e Z ⟨rfl, c1, -⟩)
        exact ⟨⟨k + 1, h', m', E', by omega, by go_num, rfl, rfl, h0', m0', by omega, c1⟩, by simp [intOf]; omega⟩
    · obtain rfl : k = n := by omega
      go_wp2_with fail
      go_ret
      exact ⟨rfl, c0.bel⟩
end Go.Proofs.Ytpjcpikafpnmpaa
