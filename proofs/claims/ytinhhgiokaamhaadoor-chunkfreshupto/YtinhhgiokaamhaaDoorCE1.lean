/- CHUNKFORM. -/
import Derived.Test.YtinhhgiokaamhaaDoorCD2
import Derived.Test.YtinhhgiokaamhaaDoorCM4
namespace Go.Proofs.YtinhhgiokaamhaaDoor
open Go.RowKit

/-- Read of a front of a container. -/
theorem read_cut (m : Nat) (ao : Option Addr) (i cap : Nat) (cs : List Ck) (w : World) (LD : Laid w) (hm : m < 4294967296) (hn : cs.length ≤ 1024) (hs : szC cs ≤ 16777216) (hc : ∀ c ∈ cs, c.1 < 4294967296 ∧ c.2.length < 4294967296) (hi : i < szC cs) (hc1 : i ≤ cap) (hc2 : cap ≤ 9223372036854775807) (hb : By w ao ((cont m cs).take i)) :
    Calls Tryd.prog 13 #[.int .u32 m, .slice ao i cap] w fun x w' => x = .returned (.tuple #[.slice none 0 0, .int .i64 80]) ∧ Below w.heap.size w w' := by
  have e := read_front hm hn hs hc hi
  have hl : ((cont m cs).take i).length = i := by rw [List.length_take, cont_len]; omega
  have RD := read_any m ao cap _ w LD hb (by omega) hc2
  rw [hl] at RD
  refine RD.mono ?_
  rintro x w' ⟨-, h0, hB⟩
  rw [e] at h0
  exact ⟨h0 (by decide), hB⟩
/-- Read of a container with bytes behind it, or of another magic. -/
theorem read_tag (m m' : Nat) (ao : Option Addr) (n cap : Nat) (cs : List Ck) (r : List Nat) (w : World) (LD : Laid w) (hm : m < 4294967296) (hn : cs.length ≤ 1024) (hs : szC cs + r.length = n) (hs2 : n ≤ 16777216) (hc : ∀ c ∈ cs, c.1 < 4294967296 ∧ c.2.length < 4294967296) (hx : m ≠ m' ∨ r ≠ []) (hc1 : n ≤ cap) (hc2 : cap ≤ 9223372036854775807) (hb : By w ao (cont m cs ++ r)) :
    Calls Tryd.prog 13 #[.int .u32 m', .slice ao n cap] w fun x w' => x = .returned (.tuple #[.slice none 0 0, .int .i64 82]) ∧ Below w.heap.size w w' := by
  have e : readE m' (cont m cs ++ r) = 82 := by
    rw [(read_app r hm hn hc m').1, if_neg (by omega)]
    rcases hx with hx | hx
    · rw [if_neg hx]
    · rw [if_neg hx]
      split <;> rfl
  have hl : (cont m cs ++ r).length = n := by rw [List.length_append, cont_len, hs]
  have RD := read_any m' ao cap _ w LD hb (by omega) hc2
  rw [hl] at RD
  refine RD.mono ?_
  rintro x w' ⟨-, h0, hB⟩
  rw [e] at h0
  exact ⟨h0 (by decide), hB⟩
theorem wp_app8 {w : World} {ops : Array Oper} {rest : List Oper} {o : Oper} {a : Act} {Q : Exit → Act → World → Prop} (hgd : o.guard = none) (s x : Operand)
    (ho : o.op = .call { callee := .builtin .append, args := #[s, x], argTypes := #[23, 23] }) (base n : Nat) (v : Value) (l : List Nat) (hs : a.eval s = v) (hown : w.ownsRow base 5 1 v n (u8s l)) (hbase : base ≤ w.heap.size) (ao : Option Addr) (m c : Nat) (b : List Nat) (hx : a.eval x = .slice ao m c) (hm : b.length = m) (hb : By w ao b) (hsz : n + m ≤ 1099511627776)
    (h : ∀ v' w', w'.ownsRow base 5 1 v' (n + m) (u8s (l ++ b)) → w.grownBy w' v.ownBlock → wpList Tryd.prog ops Q rest (a.put o.dst v') w') : wpList Tryd.prog ops Q (o :: rest) a w := by
  obtain ⟨i0, hi, hz0, hz1, hz2⟩ := info_parts info_u8
  subst hm
  cases ao with
  | none =>
    have hb0 : b = [] := by
      rcases b with _ | ⟨y, t⟩
      · rfl
      · obtain ⟨_, _, e, _⟩ := hb 0 y rfl
        exact absurd e (by simp)
    subst hb0
    refine wp_of_run hgd s x _ ho _ _ hs hx (run_append_none w base _ _ _ i0 1 und_u8s hi _ _ _ hown c) ?_
    exact h v w (by simpa using hown) ⟨rfl, rfl, rfl, Nat.le_refl _, fun _ _ _ => rfl⟩
  | some ad =>
    have hnews : ∀ j u, (u8s b)[j]? = some u → w.cell? (ad.add j) = some u := by
      rcases b with _ | ⟨y, t⟩
      · intro j u hj; simp [u8s] at hj
      · obtain ⟨gg, oo, e, _⟩ := hb 0 y rfl
        injection e with e
        subst e
        exact hb.news
    obtain ⟨v', w', hr, own, gr, _⟩ := run_append_own (P := Tryd.prog) w base 23 o.type 5 i0 (.int .u8 0) 1 1 und_u8s hi hz0 hz1 hz2 rfl (by decide) v n (u8s l) hown ad b.length c (u8s b) (u8s_len b) hnews (u8s_one b) (by unfold maxLen; omega) (by omega) hbase
    rw [u8s_app] at own
    exact wp_of_run hgd s x _ ho _ _ hs hx hr (h v' w' own gr)
set_option maxHeartbeats 3200000 in
set_option maxRecDepth 100000 in
theorem form_any (m : Nat) (hm : m < 4294967296) (lo : Option Addr) (cs : List Ck) (cl : Nat) (hn : cs.length ≤ 9223372036854775807) (bo : Option Addr) (bl : List Nat) (bc : Nat) (hbl : bl.length ≤ bc ∧ bc ≤ 9223372036854775807) (ro : Option Addr) (rl : List Nat) (rc : Nat) (hrl : rl.length ≤ rc ∧ rc ≤ 9223372036854775807) (w : World) (LD : Laid w) (f : Cw w lo cs ∧ Caps w lo cs.length) (hB : By w bo bl) (hR : By w ro rl) :
    Calls Tryd.prog 6 #[.int .u32 m, .slice lo cs.length cl, .slice bo bl.length bc, .slice ro rl.length rc] w fun e w' => e = .returned (.bool true) ∧ Below w.heap.size w w' := by
  obtain ⟨h, hcap⟩ := f
  have LL := hid1 LD
  have lp := LD.pos
  have HB := hid1 hB
  have HR := hid1 hR
  have FO := hid1 (fw_ok h.ok)
  have FB := hid1 (fun W (hW : Below w.heap.size w W) => few_any lo cl cs W hn (h.keep hW) (fun gl ol j ao n cap e hj hc => by
    obtain ⟨gl', ol', ao', cap', e', c1, c2, _⟩ := h.at hj
    rw [e] at e'
    injection e' with e'
    injection e' with e1 e2
    subst e1 e2
    have h1 := keepc hW c2
    rw [h1] at hc
    injection hc with hc
    injection hc with h2 h3 h4
    subst h2 h3 h4
    exact hcap gl ol j ao' _ cap' e hj c2))
  obtain ⟨L, eL⟩ : ∃ L, cs.length = L := ⟨_, rfl⟩
  rw [eL] at FB ⊢
  obtain ⟨F, eF⟩ : ∃ F, fw cs = F := ⟨_, rfl⟩
  rw [eF] at FB FO
  have fl := fw_len cs
  rw [eF] at fl
  have sz := sz_bd (N := 200) fun c hc => (FO.out c hc).2
  obtain ⟨n, en⟩ : ∃ n, szC F = n := ⟨_, rfl⟩
  rw [en] at sz
  have sz1 : 12 ≤ n := sz.1
  have sz2 : n ≤ 4332 := by have := sz.2; omega
  have F4 : Hid (∀ c ∈ F, c.1 < 4294967296 ∧ c.2.length < 4294967296) := hid1 fun c hc => ⟨(FO.out c hc).1.1, by have := (FO.out c hc).2; omega⟩
  have EN := hid1 en
  clear LD h hcap eL eF en sz hn hB hR
  go_enter Tryd.func6, Tryd.ntmps6
  go_wp2_with fail
  refine (begun_any w LL.out).mono ?_
  rintro e w1 ⟨rfl, B1⟩
  go_wp2_with fail
  refine (FB.out w1 B1).mono ?_
  rintro e w2 ⟨lo', cp, rfl, c2, b2⟩
  have B2 := bl_step B1 b2
  clear B1 b2 FB
  obtain ⟨fn, efn⟩ : ∃ k, F.length = k := ⟨_, rfl⟩
  rw [efn]
  have EFN := hid1 efn
  have fl2 : fn ≤ 20 := by omega
  clear efn
  go_wp2_with fail
  refine (write_ok m lo' fn cp n F w2 (LL.out.on B2) c2 EFN.out (by omega) EN.out (by omega)).mono ?_
  rintro e w3 ⟨gb, rfl, own3, y3, b3⟩
  have B3 := bl_step B2 b3
  have zb := (own3.lt gb rfl).2
  have Y3 := hid1 y3
  have C3 := hid1 (c2.keep b3)
  clear own3 c2 b3 y3 B2
  go_wp2_with fail
  refine (read_good m (some ⟨gb, 0, none⟩) n n F w3 (LL.out.on B3) hm (by omega) EN.out (by omega) (Nat.le_refl _) (by omega) (fun c hc => (F4.out c hc).1) Y3.out).mono ?_
  rintro e w4 ⟨lo4, cp4, gs4, rfl, an4, b4⟩
  have B4 := bl_step B3 b4
  have A4 := hid1 an4.cs.2
  have C4 := hid1 (C3.out.keep b4)
  have Y4 := hid1 (Y3.out.keep b4)
  clear an4 b4 B3 C3 Y3
  rw [EFN.out]
  obtain ⟨m1, em1⟩ : ∃ m1 : Nat, (m + 1) % 4294967296 = m1 := ⟨_, rfl⟩
  have wm : IntKind.u32.wrap ((m : Int) + 1) = (m1 : Int) := by rw [← em1]; simp [IntKind.wrap, IntKind.signed, IntKind.bits]
  have hmm : m ≠ m1 := by omega
  clear em1
  go_wp2_with fail
  refine (read_tag m m1 (some ⟨gb, 0, none⟩) n n F [] w4 (LL.out.on B4) hm (by omega) (by rw [List.length_nil]; exact EN.out) (by omega) F4.out (.inl hmm) (Nat.le_refl _) (by omega) (by rw [List.append_nil]; exact Y4.out)).mono ?_
  rintro e w5 ⟨rfl, b5⟩
  have B5 := bl_step B4 b5
  have EQ := hid1 (eq_same lo4 lo' cp4 cp fn F w5 EFN.out (by omega) (A4.out.keep b5) (C4.out.keep b5))
  have Y5 := hid1 (Y4.out.keep b5)
  clear b5 B4 A4 C4 Y4 wm
  go_wp2_with fail
  refine EQ.out.mono ?_
  rintro e w6 ⟨rfl, n6, rfl⟩
  have B6 : Below w.heap.size w (w5.drewN n6) := bl_drewN B5 _
  have Y6 := hid1 (Y5.out.drewN n6)
  clear EQ B5 Y5
  generalize w5.drewN n6 = w6 at *
  go_wp2_with fail
  go_loopw [16] (fun i wr => ∃ k : Nat, k ≤ n ∧ i = .int .i64 k ∧ Hid (By wr (some ⟨gb, 0, none⟩) (cont m F)) ∧ Below w.heap.size w wr) (fun i _ => n - (intOf i).toNat)
  case atStart => exact ⟨0, Nat.zero_le _, rfl, Y6, B6⟩
  case round =>
    clear Y6 B6
    obtain ⟨k, hk, rfl, Y7, B7⟩ := hrel
    have ik0 : (0 : Int) ≤ (k : Int) := by omega
    by_cases hlt : k < n
    · have ik : (k : Int) < (n : Int) := by omega
      have ik2 : (k : Int) ≤ (n : Int) := by omega
      go_wp2_with fail
      refine (read_cut m (some ⟨gb, 0, none⟩) k n F wr (LL.out.on B7) hm (by omega) (by rw [EN.out]; omega) F4.out (by rw [EN.out]; exact hlt) hk (by omega) (Y7.out.take k)).mono ?_
      rintro e w8 ⟨rfl, b8⟩
      have B8 := bl_step B7 b8
      have Y8 := hid1 (Y7.out.keep b8)
      clear b8 B7 Y7
      go_wp2_with fail
      exact ⟨⟨k + 1, by omega, by go_num, Y8, B8⟩, by simp [intOf]; omega⟩
    · obtain rfl : n = k := by omega
      clear hlt hk
      have zw := B7.size
      by_cases hb0 : bl.length = 0
      · have hb1 : bl = [] := List.eq_nil_of_length_eq_zero hb0
        subst hb1
        have Bz := B7
        obtain ⟨wz, ewz⟩ : ∃ wz, wr = wz := ⟨_, rfl⟩
        subst ewz
        go_wp2_with fail
        have RY := hid1 (HR.out.keep Bz)
        have RD := hid1 (read_any m ro rc rl wr (LL.out.on Bz) RY.out hrl.1 hrl.2)
        refine RD.out.mono ?_
        rintro e wq ⟨h0, h1, bq⟩
        have Bq := bl_step Bz bq
        by_cases he : readE m rl = 0
        · obtain ⟨v, gs, rfl, an⟩ := h0 he
          obtain ⟨z1, z2, z3, z4⟩ := read_zero HR.out.byte he
          obtain ⟨lv, cv, rfl, -, -⟩ := an.val
          have CV := hid1 an.cs.2
          obtain ⟨V, eV⟩ : ∃ V, readV rl = V := ⟨_, rfl⟩
          rw [eV] at CV z1 z2 z3 ⊢
          obtain ⟨vn, evn⟩ : ∃ k, V.length = k := ⟨_, rfl⟩
          obtain ⟨vz, evz⟩ : ∃ k, szC V = k := ⟨_, rfl⟩
          rw [evn] at z2 ⊢
          have rlen : rl.length = vz := by rw [z1, cont_len, evz]
          rw [evz] at z3
          have Z1 := hid1 z1
          have EVN := hid1 evn
          have EVZ := hid1 evz
          have YQ := hid1 (RY.out.keep bq)
          have RLEN := hid1 rlen
          clear h0 h1 an z1 z4 eV evn evz RD RY bq rlen he
          go_wp2_with fail
          refine (write_ok m lv vn cv vz V wq (LL.out.on Bq) CV.out EVN.out z2 EVZ.out z3).mono ?_
          rintro e wv ⟨gv, rfl, -, yv, bv⟩
          have Bv := bl_step Bq bv
          have SA := hid1 (same_any (some ⟨gv, 0, none⟩) ro vz rc rl rl wv (by have := hrl; omega) (by rw [Z1.out]; exact yv) (YQ.out.keep bv))
          rw [decide_eq_true rfl] at SA
          have SA2 : Hid (Calls Tryd.prog 15 #[.slice (some ⟨gv, 0, none⟩) vz vz, .slice ro rl.length rc] wv fun e w' => e = .returned (.bool true) ∧ ∃ n, w' = wv.drewN n) := hid1 (by
            have := SA.out
            rw [RLEN.out] at this ⊢
            exact this)
          clear SA yv bv YQ Bq CV
          go_wp2_with fail
          refine SA2.out.mono ?_
          rintro e ww ⟨rfl, nw, rfl⟩
          go_wp2
          go_ret
          exact ⟨rfl, bl_drewN Bv _⟩
        · obtain rfl := h1 he
          obtain ⟨E, eE⟩ : ∃ E, readE m rl = E := ⟨_, rfl⟩
          rw [eE] at he ⊢
          have he' : ¬ (E : Int) = 0 := by omega
          clear h0 h1 RD RY bq eE
          go_wp2
          go_ret
          exact ⟨rfl, Bq⟩
      · have hb1 : 0 < bl.length := by omega
        by_cases hb2 : 100 < bl.length
        · obtain ⟨gg, oo, rfl⟩ := fst_some HB.out hb1
          obtain ⟨B, eB⟩ : ∃ B, bl.take 100 = B := ⟨_, rfl⟩
          have QL : B.length = 100 := by rw [← eB, List.length_take]; omega
          have BY : Hid (∀ W, Below w.heap.size w W → By W (some ⟨gg, oo, none⟩) B) := hid1 fun W hW => by rw [← eB]; exact (HB.out.keep hW).take 100
          have QN : B ≠ [] := by intro h; rw [h] at QL; simp at QL
          have j1 : (100 : Int) < (bl.length : Int) := by omega
          have j2 : (100 : Int) ≤ (bc : Int) := by have := hbl.1; omega
          clear eB
          go_wp2_with (first
            | (at_builtin; refine wp_copyn8 rfl (.const (.slice none 0 0)) _ rfl (by go_simp) (some ⟨gb, 0, none⟩) n n (cont m F) (by go_simp) (by rw [cont_len, EN.out]) Y7.out (by omega) ?_; intro v8 w8 own8 gr8; obtain ⟨g8, q8, rfl, hg8, hq8, hq9⟩ := own_pos own8 (by omega); have O8 := hid1 own8; have B8 := bl_step B7 (grown_bel gr8); have z78 := grown_bel gr8; clear own8 gr8)
            | (at_builtin; refine wp_app8 rfl _ _ rfl wr.heap.size n (.slice (some ⟨g8, 0, none⟩) n q8) (cont m F) (by go_simp) O8.out z78.size (some ⟨gg, oo, none⟩) 100 bc B (by go_simp) QL (BY.out _ B8) (by omega) ?_; intro v9 w9 own9 gr9; obtain ⟨g9, q9, rfl, hg9, hq9', hq9''⟩ := own_pos own9 (by omega); have O9 := hid1 own9; have G9 := hid1 gr9; clear own9 gr9))
          have zw7 := B7.size
          have B9 : Below w.heap.size w w9 := bl_bp B8 (BP.grown G9.out) fun x hx he => by
            have e : x = g8 := by injection he
            omega
          refine (read_tag m m (some ⟨g9, 0, none⟩) (n + 100) q9 F B w9 (LL.out.on B9) hm (by omega) (by rw [EN.out, QL]) (by omega) F4.out (.inr QN) hq9' hq9'' (own_by O9.out (app_lt (cont_lt m fun c hc => (FO.out c hc).1) (BY.out _ B9).byte))).mono ?_
          rintro e wz ⟨rfl, bz⟩
          have Bz := bl_step B9 bz
          clear bz B9 B8 z78 O8 O9 G9 B7 Y7 BY
          go_wp2_with fail
          have RY := hid1 (HR.out.keep Bz)
          have RD := hid1 (read_any m ro rc rl wz (LL.out.on Bz) RY.out hrl.1 hrl.2)
          refine RD.out.mono ?_
          rintro e wq ⟨h0, h1, bq⟩
          have Bq := bl_step Bz bq
          by_cases he : readE m rl = 0
          · obtain ⟨v, gs, rfl, an⟩ := h0 he
            obtain ⟨z1, z2, z3, z4⟩ := read_zero HR.out.byte he
            obtain ⟨lv, cv, rfl, -, -⟩ := an.val
            have CV := hid1 an.cs.2
            obtain ⟨V, eV⟩ : ∃ V, readV rl = V := ⟨_, rfl⟩
            rw [eV] at CV z1 z2 z3 ⊢
            obtain ⟨vn, evn⟩ : ∃ k, V.length = k := ⟨_, rfl⟩
            obtain ⟨vz, evz⟩ : ∃ k, szC V = k := ⟨_, rfl⟩
            rw [evn] at z2 ⊢
            have rlen : rl.length = vz := by rw [z1, cont_len, evz]
            rw [evz] at z3
            have Z1 := hid1 z1
            have EVN := hid1 evn
            have EVZ := hid1 evz
            have YQ := hid1 (RY.out.keep bq)
            have RLEN := hid1 rlen
            clear h0 h1 an z1 z4 eV evn evz RD RY bq rlen he
            go_wp2_with fail
            refine (write_ok m lv vn cv vz V wq (LL.out.on Bq) CV.out EVN.out z2 EVZ.out z3).mono ?_
            rintro e wv ⟨gv, rfl, -, yv, bv⟩
            have Bv := bl_step Bq bv
            have SA := hid1 (same_any (some ⟨gv, 0, none⟩) ro vz rc rl rl wv (by have := hrl; omega) (by rw [Z1.out]; exact yv) (YQ.out.keep bv))
            rw [decide_eq_true rfl] at SA
            have SA2 : Hid (Calls Tryd.prog 15 #[.slice (some ⟨gv, 0, none⟩) vz vz, .slice ro rl.length rc] wv fun e w' => e = .returned (.bool true) ∧ ∃ n, w' = wv.drewN n) := hid1 (by
              have := SA.out
              rw [RLEN.out] at this ⊢
              exact this)
            clear SA yv bv YQ Bq CV
            go_wp2_with fail
            refine SA2.out.mono ?_
            rintro e ww ⟨rfl, nw, rfl⟩
            go_wp2
            go_ret
            exact ⟨rfl, bl_drewN Bv _⟩
          · obtain rfl := h1 he
            obtain ⟨E, eE⟩ : ∃ E, readE m rl = E := ⟨_, rfl⟩
            rw [eE] at he ⊢
            have he' : ¬ (E : Int) = 0 := by omega
            clear h0 h1 RD RY bq eE
            go_wp2
            go_ret
            exact ⟨rfl, Bq⟩
        · have BY : Hid (∀ W, Below w.heap.size w W → By W bo bl) := hid1 fun W hW => HB.out.keep hW
          have QN : bl ≠ [] := by intro h; rw [h] at hb1; simp at hb1
          have j1 : ¬ (100 : Int) < (bl.length : Int) := by omega
          have j2 : (0 : Int) < (bl.length : Int) := by omega
          go_wp2_with (first
            | (at_builtin; refine wp_copyn8 rfl (.const (.slice none 0 0)) _ rfl (by go_simp) (some ⟨gb, 0, none⟩) n n (cont m F) (by go_simp) (by rw [cont_len, EN.out]) Y7.out (by omega) ?_; intro v8 w8 own8 gr8; obtain ⟨g8, q8, rfl, hg8, hq8, hq9⟩ := own_pos own8 (by omega); have O8 := hid1 own8; have B8 := bl_step B7 (grown_bel gr8); have z78 := grown_bel gr8; clear own8 gr8)
            | (at_builtin; refine wp_app8 rfl _ _ rfl wr.heap.size n (.slice (some ⟨g8, 0, none⟩) n q8) (cont m F) (by go_simp) O8.out z78.size bo bl.length bc bl (by go_simp) rfl (BY.out _ B8) (by omega) ?_; intro v9 w9 own9 gr9; obtain ⟨g9, q9, rfl, hg9, hq9', hq9''⟩ := own_pos own9 (by omega); have O9 := hid1 own9; have G9 := hid1 gr9; clear own9 gr9))
          have zw7 := B7.size
          have B9 : Below w.heap.size w w9 := bl_bp B8 (BP.grown G9.out) fun x hx he => by
            have e : x = g8 := by injection he
            omega
          refine (read_tag m m (some ⟨g9, 0, none⟩) (n + bl.length) q9 F bl w9 (LL.out.on B9) hm (by omega) (by rw [EN.out]) (by omega) F4.out (.inr QN) hq9' hq9'' (own_by O9.out (app_lt (cont_lt m fun c hc => (FO.out c hc).1) (BY.out _ B9).byte))).mono ?_
          rintro e wz ⟨rfl, bz⟩
          have Bz := bl_step B9 bz
          clear bz B9 B8 z78 O8 O9 G9 B7 Y7 BY
          go_wp2_with fail
          have RY := hid1 (HR.out.keep Bz)
          have RD := hid1 (read_any m ro rc rl wz (LL.out.on Bz) RY.out hrl.1 hrl.2)
          refine RD.out.mono ?_
          rintro e wq ⟨h0, h1, bq⟩
          have Bq := bl_step Bz bq
          by_cases he : readE m rl = 0
          · obtain ⟨v, gs, rfl, an⟩ := h0 he
            obtain ⟨z1, z2, z3, z4⟩ := read_zero HR.out.byte he
            obtain ⟨lv, cv, rfl, -, -⟩ := an.val
            have CV := hid1 an.cs.2
            obtain ⟨V, eV⟩ : ∃ V, readV rl = V := ⟨_, rfl⟩
            rw [eV] at CV z1 z2 z3 ⊢
            obtain ⟨vn, evn⟩ : ∃ k, V.length = k := ⟨_, rfl⟩
            obtain ⟨vz, evz⟩ : ∃ k, szC V = k := ⟨_, rfl⟩
            rw [evn] at z2 ⊢
            have rlen : rl.length = vz := by rw [z1, cont_len, evz]
            rw [evz] at z3
            have Z1 := hid1 z1
            have EVN := hid1 evn
            have EVZ := hid1 evz
            have YQ := hid1 (RY.out.keep bq)
            have RLEN := hid1 rlen
            clear h0 h1 an z1 z4 eV evn evz RD RY bq rlen he
            go_wp2_with fail
            refine (write_ok m lv vn cv vz V wq (LL.out.on Bq) CV.out EVN.out z2 EVZ.out z3).mono ?_
            rintro e wv ⟨gv, rfl, -, yv, bv⟩
            have Bv := bl_step Bq bv
            have SA := hid1 (same_any (some ⟨gv, 0, none⟩) ro vz rc rl rl wv (by have := hrl; omega) (by rw [Z1.out]; exact yv) (YQ.out.keep bv))
            rw [decide_eq_true rfl] at SA
            have SA2 : Hid (Calls Tryd.prog 15 #[.slice (some ⟨gv, 0, none⟩) vz vz, .slice ro rl.length rc] wv fun e w' => e = .returned (.bool true) ∧ ∃ n, w' = wv.drewN n) := hid1 (by
              have := SA.out
              rw [RLEN.out] at this ⊢
              exact this)
            clear SA yv bv YQ Bq CV
            go_wp2_with fail
            refine SA2.out.mono ?_
            rintro e ww ⟨rfl, nw, rfl⟩
            go_wp2
            go_ret
            exact ⟨rfl, bl_drewN Bv _⟩
          · obtain rfl := h1 he
            obtain ⟨E, eE⟩ : ∃ E, readE m rl = E := ⟨_, rfl⟩
            rw [eE] at he ⊢
            have he' : ¬ (E : Int) = 0 := by omega
            clear h0 h1 RD RY bq eE
            go_wp2
            go_ret
            exact ⟨rfl, Bq⟩
end Go.Proofs.YtinhhgiokaamhaaDoor
