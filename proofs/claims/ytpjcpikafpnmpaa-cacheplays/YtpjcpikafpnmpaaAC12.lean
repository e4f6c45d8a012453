/- CachePlays. -/
import Derived.Test.YtpjcpikafpnmpaaAC11
namespace Go.Proofs.Ytpjcpikafpnmpaa
open Go.RowKit

/-- What New of the program leaves. -/
def N1 (rm : Int) (w0 w w' : World) (va : Value) (ev : Int) : Prop :=
  (¬ (1 ≤ rm ∧ rm ≤ 4096) ∧ va = .pointer none ∧ ev = 1 ∧ w' = w) ∨ ((1 ≤ rm ∧ rm ≤ 4096) ∧ ev = 0 ∧ ∃ S p bm, va = .pointer (some ⟨p, 0, none⟩) ∧ Cw w0 w' S p rm bm 0 0 [] ∧ Below w.heap.size w w' ∧ ∀ k, S k → w.heap.size ≤ k)
/-- What New of the document leaves. -/
def N2 (rm : Int) (w w' : World) (vb : Value) (fv : Int) : Prop :=
  (¬ (1 ≤ rm ∧ rm ≤ 4096) ∧ vb = .pointer none ∧ fv = 1 ∧ w' = w) ∨ ((1 ≤ rm ∧ rm ≤ 4096) ∧ fv = 0 ∧ ∃ d, vb = .pointer (some ⟨d, 0, none⟩) ∧ w.heap.size ≤ d ∧ Rv w' (fun k => k = d) d rm 0 0 (.slice none 0 0) [] ∧ Below w.heap.size w w')
theorem new1_any (rm : Int) {w0 w : World} (b0 : Below w0.heap.size w0 w) :
    Calls Try.prog 24 #[.int .i64 rm] w fun e w' => ∃ va ev, e = .returned (.tuple #[va, .int .i64 ev]) ∧ N1 rm w0 w w' va ev ∧ Below w.heap.size w w' := by
  by_cases h : 1 ≤ rm ∧ rm ≤ 4096
  · refine (cw_new rm h.1 h.2 b0).mono ?_
    rintro e w' ⟨S, p, bm, rfl, c, b, hs⟩
    exact ⟨_, 0, rfl, .inr ⟨h, rfl, S, p, bm, rfl, c, b, hs⟩, b⟩
  · refine (cnew_bad rm h w).mono ?_
    rintro e w' ⟨rfl, rfl⟩
    exact ⟨_, 1, rfl, .inl ⟨h, rfl, rfl, rfl⟩, Below.refl _ _⟩
theorem new2_any (rm : Int) (w : World) :
    Calls Try.prog 25 #[.int .i64 rm] w fun e w' => ∃ vb fv, e = .returned (.tuple #[vb, .int .i64 fv]) ∧ N2 rm w w' vb fv ∧ Below w.heap.size w w' := by
  by_cases h : 1 ≤ rm ∧ rm ≤ 4096
  · refine (rnew_ok rm h.1 h.2 w).mono ?_
    rintro e w' ⟨d, rfl, hd, r, b⟩
    exact ⟨_, 0, rfl, .inr ⟨h, rfl, d, rfl, hd, r, b⟩, b⟩
  · refine (rnew_bad rm h w).mono ?_
    rintro e w' ⟨rfl, rfl⟩
    exact ⟨_, 1, rfl, .inl ⟨h, rfl, rfl, rfl⟩, Below.refl _ _⟩
theorem pair_new {rm : Int} {w0 X Y Z : World} {va vb : Value} {ev fv : Int} (h0 : w0.heap.size ≤ X.heap.size) (h1 : N1 rm w0 X Y va ev) (h2 : N2 rm Y Z vb fv) : fv = ev ∧ Pn w0 Z (fun k => X.heap.size ≤ k ∧ k < Z.heap.size) va vb rm 0 := by
  rcases h1 with ⟨n1, rfl, rfl, rfl⟩ | ⟨o1, rfl, S, p, bm, rfl, c, b, hs⟩
  · rcases h2 with ⟨n2, rfl, rfl, rfl⟩ | ⟨o2, _⟩
    · exact ⟨rfl, .inl ⟨rfl, rfl⟩⟩
    · exact absurd o2 n1
  · rcases h2 with ⟨n2, _⟩ | ⟨o2, rfl, d, rfl, hd, r, bz⟩
    · exact absurd o1 n2
    · exact ⟨rfl, .inr ⟨p, d, rfl, rfl, new_pair c hs h0 b r hd bz⟩⟩
set_option maxHeartbeats 6400000 in
set_option maxRecDepth 100000 in
theorem cachePlays_any (w : World) (room other : Int) (ao : Option Addr) (xs : List Oq) (cap : Nat) (hl : xs.length ≤ 1954687338211) (hx : Lo w ao xs) :
    Calls Try.prog 7 #[.int .i64 room, .int .i64 other, .slice ao xs.length cap] w fun e w' => e = .returned (.bool true) ∧ Below w.heap.size w w' := by
  obtain ⟨n, hn⟩ : ∃ n, xs.length = n := ⟨_, rfl⟩
  have HX := hid1 hx
  have HN := hid1 hn
  rw [hn] at hl ⊢
  clear hx hn
  go_enter Try.func7, Try.ntmps7
  go_upto_region 2 with (go_at_call 8; refine (begun_any w).mono ?_; rintro e w1 ⟨rfl, B1⟩)
  have HM := hid1 (new1_any room B1)
  go_upto_region 4 with (go_at_call 24; refine HM.out.mono ?_; rintro e w2 ⟨va, ev, rfl, n1, bl2⟩)
  have HM2 := hid1 (new2_any room w2)
  clear HM
  go_upto_region 5 with (go_at_call 25; refine HM2.out.mono ?_; rintro e w3 ⟨vb, fv, rfl, n2, bl3⟩)
  obtain ⟨rfl, pn⟩ := pair_new B1.size n1 n2
  have HP := hid1 pn
  have hb3 := bl_step (bl_step B1 bl2) bl3
  have hz3 := bl2.size
  have hz4 := B1.size
  clear HM2 pn n1 n2 bl2 bl3 B1
  go_cut [42] from 33 to 41 (fun v wx => v = .bool false ∧ wx = w3)
  case first =>
    rcases HP.out with ⟨rfl, rfl⟩ | ⟨p, d, rfl, rfl, -⟩
    · go_wp2_with fail
      go_meet
      exact ⟨rfl, rfl⟩
    · go_wp2_with fail
      go_meet
      exact ⟨rfl, rfl⟩
  case rest =>
    obtain ⟨rfl, rfl⟩ := hcut
    rename World => X3
    have HJ0 := hid1 (show Jn w (fun k => w1.heap.size ≤ k ∧ k < X3.heap.size) (fun _ => False) va vb (.pointer none) (.pointer none) room other 0 0 X3 from
      ⟨HP.out, .inl ⟨rfl, rfl⟩, fun _ _ h => h, hb3, fun k hk => ⟨by omega, hk.2⟩, fun _ h => h.elim⟩)
    clear HP hb3
    go_wp2_with fail
    go_loopw [11, 12, 13, 14] (fun vc vd vg vi wr => ∃ (k : Nat) (U1 U2 : Nat → Prop) (b : Bool), k ≤ n ∧ vi = .int .i64 k ∧ vg = .bool b ∧ Jn w U1 U2 va vb vc vd room other k k wr) (fun _ _ _ vi _ => n - (intOf vi).toNat)
    case atStart => exact ⟨0, _, _, false, Nat.zero_le _, rfl, rfl, HJ0.out⟩
    case round =>
      clear HJ0
      obtain ⟨k, U1, U2, bg, hk, rfl, rfl, jn⟩ := hrel
      by_cases hlt : k < n
      · have ik : (k : Int) < (n : Int) := by omega
        have ik0 : (0 : Int) ≤ (k : Int) := by omega
        obtain ⟨x, hxk⟩ : ∃ x, xs[k]? = some x := ⟨_, List.getElem?_eq_getElem (by rw [HN.out]; exact hlt)⟩
        obtain ⟨g, o, rfl, oc⟩ := HX.out k x hxk
        have e0 := keepc jn.bel oc.c0
        have e1 := keepc jn.bel oc.c1
        have e2 := keepc jn.bel oc.c2
        have e3 := keepc jn.bel oc.c3
        have e4 := keepc jn.bel oc.c4
        have HOC := hid1 oc
        have BX := op_new wr x
        have BA : Below wr.heap.size wr (wr.alloc (.cells #[.int .i64 x.kd, .int .i64 x.on, .slice x.ka x.k.size x.kc, .slice x.la x.l.length x.lc, .int .i64 x.ag] 33)) := bl_alloc (Below.refl _ _) _
        have HJ := hid1 (jn.below BA)
        have HBX := hid1 BX
        have hb15 := hid1 (show (¬ U1 wr.heap.size) ∧ ¬ U2 wr.heap.size from ⟨fun h => by have := (jn.u1 _ h).2; omega, fun h => by have := (jn.u2 _ h).2; omega⟩)
        have f0 := BX.cell (i := 0) (by omega)
        have f1 := BX.cell (i := 1) (by omega)
        have f2 := BX.cell (i := 2) (by omega)
        have f3 := BX.cell (i := 3) (by omega)
        have f4 := BX.cell (i := 4) (by omega)
        dsimp [opf] at f0 f1 f2 f3 f4
        clear jn hxk BX oc
        go_upto_block 1 with fail
        go_cut [11, 12, 13, 15, 16, 17, 18, 19] from 49 to 106 (fun vc vd vg _ _ _ _ _ wx => ∃ (U1' U2' : Nat → Prop) (b : Bool), vg = .bool b ∧ Jn w U1' U2' va vb vc vd room other (k + 1) (k + 1) wx)
        case first =>
          go_upto_region 14 with fail
          clear e0 e1 e2 e3 e4 BA
          generalize wr.alloc (.cells #[.int .i64 x.kd, .int .i64 x.on, .slice x.ka x.k.size x.kc, .slice x.la x.l.length x.lc, .int .i64 x.ag] 33) = X at *
          generalize wr.heap.size = b15 at *
          have HPL0 := fun (Y : World) (U : Nat → Prop) (p d : Nat) (rm : Int) (z : Pz w Y U p d rm k) => plays_any z (by omega) x HOC.out.kb (by have := HOC.out.kz; omega) HOC.out.nm HOC.out.nz HOC.out.nn
          obtain ⟨on, hon⟩ : ∃ on, x.on = on := ⟨_, rfl⟩
          rw [hon] at HPL0 f1
          simp only [hon]
          have HON := hid1 hon
          have HPL := hid1 HPL0
          clear HPL0 hon
          by_cases h0 : on = 0
          · subst h0
            rcases HJ.out.a with ⟨rfl, rfl⟩ | ⟨p, d, rfl, rfl, z⟩
            · go_wp2_with fail
              go_meet
              exact ⟨U1, U2, bg, rfl, HJ.out.le (by omega) (by omega)⟩
            · have HC := hid1 (HPL.out X U1 p d room z)
              clear z
              go_wp2_with (go_at_call 26; refine HC.out.mono ?_; rintro e Y ⟨rfl, z', b'⟩)
              go_meet
              exact ⟨grown U1 X Y, U2, bg, rfl, (HJ.out.turn1 z' b').le (by omega) (by omega)⟩
          · have HNW := hid1 (new1_any other HJ.out.bel)
            go_upto_region 18 with (go_at_call 24; refine HNW.out.mono ?_; rintro e Y1 ⟨vx, ex, rfl, m1, bl1⟩)
            have HNW2 := hid1 (new2_any other Y1)
            clear HNW
            go_upto_region 19 with (go_at_call 25; refine HNW2.out.mono ?_; rintro e Y2 ⟨vy, fy, rfl, m2, bl2⟩)
            obtain ⟨rfl, pn⟩ := pair_new HJ.out.bel.size m1 m2
            have bl := bl_step bl1 bl2
            have HPN := hid1 pn
            have HJ2 := hid1 (HJ.out.below bl)
            have BX2 := keepr bl HBX.out
            have HBX2 := hid1 BX2
            have hbX := HBX.out.lt
            have hXw := HJ.out.bel.size
            have hUX := hid1 (And.intro (fun k h => (HJ.out.u1 k h).2) (fun k h => (HJ.out.u2 k h).2))
            clear HNW2 m1 m2 bl1 bl2 bl pn HJ HBX f0 f1 f2 f3 f4 BX2
            go_cut [84] from 75 to 83 (fun v wx => v = .bool false ∧ wx = Y2)
            case first =>
              rcases HPN.out with ⟨rfl, rfl⟩ | ⟨p, d, rfl, rfl, -⟩
              · go_wp2_with fail
                go_meet
                exact ⟨rfl, rfl⟩
              · go_wp2_with fail
                go_meet
                exact ⟨rfl, rfl⟩
            case rest =>
              obtain ⟨rfl, rfl⟩ := hcut
              rename World => Z
              have f0 := HBX2.out.cell (i := 0) (by omega)
              have f1 := HBX2.out.cell (i := 1) (by omega)
              have f2 := HBX2.out.cell (i := 2) (by omega)
              have f3 := HBX2.out.cell (i := 3) (by omega)
              have f4 := HBX2.out.cell (i := 4) (by omega)
              dsimp [opf] at f0 f1 f2 f3 f4
              rw [HON.out] at f1
              go_upto_if 86 with fail
              go_cut [11, 12, 13] from 87 to 97 (fun vc vd vg wx => ∃ (U2' : Nat → Prop) (b : Bool), vg = .bool b ∧ Jn w U1 U2' va vb vc vd room other k k wx ∧ wx.rowIs b15 33 5 (opf x) ∧ ¬ U2' b15)
              case first =>
                cases bg
                · go_wp2_with fail
                  go_meet
                  exact ⟨_, true, rfl, (HJ2.out.set2 HPN.out (fun k hk => ⟨by omega, hk.2⟩) (fun k h1 hk => by have := hUX.out.1 k h1; omega)).le (by omega) (by omega), HBX2.out, fun h => by omega⟩
                · rcases HPN.out with ⟨rfl, rfl⟩ | ⟨p, d, rfl, rfl, z⟩
                  · go_wp2_with fail
                    go_meet
                    exact ⟨U2, true, rfl, HJ2.out, HBX2.out, hb15.out.2⟩
                  · have HC := hid1 (HPL.out Z _ p d other (z.more (fun _ h => h) z.1 (by omega)))
                    clear z
                    go_wp2_with (go_at_call 26; refine HC.out.mono ?_; rintro e Y ⟨rfl, z', b'⟩)
                    go_meet
                    exact ⟨U2, true, rfl, HJ2.out.other b' (fun k hk => ⟨by omega, hk.2⟩) (fun k h1 hk => by have := hUX.out.1 k h1; omega) (fun k h2 hk => by have := hUX.out.2 k h2; omega), b'.row (fun h => by omega) HBX2.out, hb15.out.2⟩
              case rest =>
                obtain ⟨U2', b2, rfl, j2, bx3, hn2⟩ := hcut
                have HJ3 := hid1 j2
                have HPC := hid1 j2.c
                have f0 := bx3.cell (i := 0) (by omega)
                have f1 := bx3.cell (i := 1) (by omega)
                have f2 := bx3.cell (i := 2) (by omega)
                have f3 := bx3.cell (i := 3) (by omega)
                have f4 := bx3.cell (i := 4) (by omega)
                dsimp [opf] at f0 f1 f2 f3 f4
                rw [HON.out] at f1
                clear j2 bx3 HJ2 HPN HBX2 hUX
                rename World => Z3
                rcases HPC.out with ⟨rfl, rfl⟩ | ⟨p, d, rfl, rfl, z⟩
                · go_wp2_with fail
                  go_meet
                  exact ⟨U1, U2', b2, rfl, HJ3.out.le (by omega) (by omega)⟩
                · have HC := hid1 (HPL.out Z3 U2' p d other z)
                  clear z
                  go_wp2_with (go_at_call 26; refine HC.out.mono ?_; rintro e Y ⟨rfl, z', b'⟩)
                  go_meet
                  exact ⟨U1, grown U2' Z3 Y, b2, rfl, (HJ3.out.turn2 z' b').le (by omega) (by omega)⟩
        case rest =>
          obtain ⟨U1', U2', b', rfl, j'⟩ := hcut
          have HJ' := hid1 j'
          clear j' HJ HBX hb15 f0 f1 f2 f3 f4 e0 e1 e2 e3 e4 BA
          go_wp2_with fail
          exact ⟨⟨k + 1, U1', U2', b', by omega, by go_num, rfl, by simpa using HJ'.out⟩, by simp [intOf]; omega⟩
      · obtain rfl : k = n := by omega
        have al : Below wr.heap.size wr (wr.alloc (.cells #[.int .i64 4, .int .i64 0, .slice none 0 0, .slice none 0 0, .int .i64 0] 33)) := bl_alloc (Below.refl _ _) _
        have HJ := hid1 (jn.below al)
        have BX : (wr.alloc (.cells #[.int .i64 4, .int .i64 0, .slice none 0 0, .slice none 0 0, .int .i64 0] 33)).rowIs wr.heap.size 33 5 (opf ⟨4, 0, none, 0, ⟨#[]⟩, none, 0, [], 0⟩) := op_new wr ⟨4, 0, none, 0, ⟨#[]⟩, none, 0, [], 0⟩
        have hb := hid1 (show ¬ U1 wr.heap.size from fun h => by have := (jn.u1 _ h).2; omega)
        have cells : ∀ Y : World, Y.rowIs wr.heap.size 33 5 (opf ⟨4, 0, none, 0, ⟨#[]⟩, none, 0, [], 0⟩) → Y.cell? ⟨wr.heap.size, 0, none⟩ = some (.int .i64 4) ∧ Y.cell? ⟨wr.heap.size, 1, none⟩ = some (.int .i64 0) ∧ Y.cell? ⟨wr.heap.size, 2, none⟩ = some (.slice none 0 0) ∧ Y.cell? ⟨wr.heap.size, 3, none⟩ = some (.slice none 0 0) ∧ Y.cell? ⟨wr.heap.size, 4, none⟩ = some (.int .i64 0) := fun Y r => ⟨r.cell (i := 0) (by omega), r.cell (i := 1) (by omega), r.cell (i := 2) (by omega), r.cell (i := 3) (by omega), r.cell (i := 4) (by omega)⟩
        have HCE := hid1 cells
        obtain ⟨f0, f1, f2, f3, f4⟩ := cells _ BX
        have HBX := hid1 BX
        have HPL := hid1 (show ∀ (Y : World) (U : Nat → Prop) (p d : Nat) (rm : Int), Pz w Y U p d rm k → Calls Try.prog 26 #[.pointer (some ⟨p, 0, none⟩), .pointer (some ⟨d, 0, none⟩), .agg #[.int .i64 4, .int .i64 0, .slice none 0 0, .slice none 0 0, .int .i64 0]] Y fun e w' => e = .returned (.bool true) ∧ Pz w w' (grown U Y w') p d rm (k + 1) ∧ BP U Y w' from
          fun Y U p d rm z => plays_any z (by omega) ⟨4, 0, none, 0, ⟨#[]⟩, none, 0, [], 0⟩ (.inl rfl) (by decide) (Nm.nil _ _) (by decide) (fun _ => rfl))
        clear jn BX cells
        go_upto_region 30 with fail
        generalize wr.alloc (.cells #[.int .i64 4, .int .i64 0, .slice none 0 0, .slice none 0 0, .int .i64 0] 33) = X at *
        generalize wr.heap.size = b20 at *
        rcases HJ.out.a with ⟨rfl, rfl⟩ | ⟨p, d, rfl, rfl, z⟩
        · rcases HJ.out.c with ⟨rfl, rfl⟩ | ⟨p2, d2, rfl, rfl, z2⟩
          · go_wp2_with fail
            go_ret
            exact ⟨rfl, HJ.out.bel⟩
          · have HC := hid1 (HPL.out X U2 p2 d2 other z2)
            clear z2
            go_wp2_with (go_at_call 26; refine HC.out.mono ?_; rintro e Y ⟨rfl, z', b'⟩)
            go_ret
            exact ⟨rfl, z'.bel⟩
        · have HC1 := hid1 (HPL.out X U1 p d room z)
          clear z
          rcases HJ.out.c with ⟨rfl, rfl⟩ | ⟨p2, d2, rfl, rfl, z2⟩
          · go_wp2_with (go_at_call 26; refine HC1.out.mono ?_; rintro e Y ⟨rfl, z', b'⟩)
            go_ret
            exact ⟨rfl, z'.bel⟩
          · have HZ2 := hid1 z2
            clear z2
            go_wp2_with (first
              | (go_at_call 26; refine (HPL.out Y U2 p2 d2 other z3).mono ?_; rintro e Y2 ⟨rfl, z', b'⟩)
              | (go_at_call 26; refine HC1.out.mono ?_; rintro e Y ⟨rfl, z', b'⟩; obtain ⟨g0, g1, g2, g3, g4⟩ := HCE.out Y (b'.row hb.out HBX.out); have z3 := HZ2.out.bp b' HJ.out.u1 (fun k h2 h1 => HJ.out.ap k h1 h2)))
            go_ret
            exact ⟨rfl, z'.bel⟩
end Go.Proofs.Ytpjcpikafpnmpaa
