/- THE DOCUMENT'S OWN Write (heddleref8). -/
import Derived.Test.YtbpglkhgggokcaaDoorCR2
namespace Go.Proofs.YtbpglkhgggokcaaDoor
open Go.RowKit

theorem bl_own {w W W' : World} {v : Value} {T n : Nat} {xs : List Value} (h : Below w.heap.size w W) (ho : W.ownsRow w.heap.size T 1 v n xs) (hb : BP (fun b => v.ownBlock = some b) W W') : Below w.heap.size w W' := bl_bp h hb fun x hx he => by have := (ho.lt x he).1; omega
theorem rsum_one (go c : Nat) (l : List Nat) (w : World) (hl : l.length ≤ 9223372036854775807) (h : Bys w (some ⟨go, 0, none⟩) [l]) :
    Calls Tryd.prog 19 #[.slice (some ⟨go, 0, none⟩) 1 c] w fun e w' => e = .returned (.int .u32 (crc l : Nat)) ∧ w' = w := by
  have h1 := rsum_any (some ⟨go, 0, none⟩) c [l] w (by simp) (fun m hm => by simp at hm; subst hm; exact hl) h
  simpa [cat] using h1
/-- Sum of a row of one's own. -/
theorem own_slice8 {W : World} {base n : Nat} {a : Option Addr} {m c : Nat} {l : List Nat} (h : W.ownsRow base 5 1 (.slice a m c) n (u8s l)) (hl : ∀ x ∈ l, x < 256) : m = l.length ∧ l.length = n ∧ By W a l := by
  obtain ⟨ao, cap, e, hb, h1, _, _⟩ := own_by' h hl
  injection e with e1 e2 e3
  subst e1
  exact ⟨e2, h1, hb⟩
set_option maxHeartbeats 1600000 in
set_option maxRecDepth 100000 in
theorem rwrite_long (m : Nat) (lo : Option Addr) (cl : Nat) (cs : List Ck) (w : World) (hn0 : cs.length ≤ 9223372036854775807) (h : Cs w lo cs) (hb : 1024 < cs.length ∨ 16777216 < szC cs) :
    Calls Tryd.prog 20 #[.int .u32 m, .slice lo cs.length cl] w fun e w' => e = .returned (.tuple #[.slice none 0 0, .int .i64 2]) ∧ w' = w := by
  have H := hid1 h
  clear h
  go_enter Tryd.func20, Tryd.ntmps20
  by_cases h1 : 1024 < cs.length
  · have i1 : (1024 : Int) < (cs.length : Int) := by omega
    clear hb
    go_wp2_with fail
    go_ret2
    exact ⟨rfl, rfl⟩
  · have hb2 : 16777216 < szC cs := by omega
    have i1 : ¬ (1024 : Int) < (cs.length : Int) := by omega
    have i2 : (16777216 : Int) < (szC cs : Int) := by omega
    clear hb
    go_wp2_with fail
    refine (rsize_any lo cl cs w (by omega) H.out).mono ?_
    rintro e w1 ⟨rfl, rfl⟩
    go_wp2_with fail
    go_ret2
    exact ⟨rfl, rfl⟩
set_option maxHeartbeats 3200000 in
set_option maxRecDepth 100000 in
theorem rwrite_good (m : Nat) (lo : Option Addr) (cl : Nat) (cs : List Ck) (w : World) (h : Cs w lo cs) (hn : cs.length ≤ 1024) (hs : szC cs ≤ 16777216) :
    Calls Tryd.prog 20 #[.int .u32 m, .slice lo cs.length cl] w fun e w' => ∃ a c, e = .returned (.tuple #[.slice a (szC cs) c, .int .i64 0]) ∧ w'.ownsRow w.heap.size 5 1 (.slice a (szC cs) c) (szC cs) (u8s (cont m cs)) ∧ Below w.heap.size w w' := by
  have H := hid1 h
  have OK := hid1 h.ok
  have i1 : ¬ (1024 : Int) < (cs.length : Int) := by omega
  have i2 : ¬ (16777216 : Int) < (szC cs : Int) := by omega
  have ZT : Hid (∀ k, k ≤ cs.length → 12 ≤ szT cs k ∧ szT cs k ≤ szC cs) := hid1 fun k hk => by
    unfold szT
    have := szC_app (cs.take k) (cs.drop k)
    rw [List.take_append_drop] at this
    have p : ∀ l, 12 ≤ szC l := fun l => by rw [← cksB_len]; omega
    have := p (cs.take k)
    have := p (cs.drop k)
    omega
  have EF : Hid (szC cs = szT cs cs.length) := hid1 (by unfold szT; rw [List.take_length])
  have wl : IntKind.u32.wrap (cs.length : Int) = (cs.length : Int) := by simp [IntKind.wrap, IntKind.signed, IntKind.bits]; omega
  obtain ⟨n, en⟩ : ∃ n, szC cs = n := ⟨_, rfl⟩
  have SZ := hid1 (fun w h => rsize_any lo cl cs w hn h)
  rw [en] at hs i2 ZT SZ EF ⊢
  clear h en
  go_enter Tryd.func20, Tryd.ntmps20
  go_wp2_with fail
  refine (SZ.out w H.out).mono ?_
  rintro e w1 ⟨rfl, rfl⟩
  go_wp2_with fail
  refine (rfour_any w1.heap.size 0 m none 0 0 [] w1 (Nat.le_refl _) (by decide) (World.ownsRow_nil _ _ _ _)).mono ?_
  rintro e w2 ⟨a2, m2, c2, rfl, o2, b2⟩
  rw [List.nil_append, Nat.zero_add] at o2
  have B2 := bl_own (T := 5) (Below.refl _ w1) (World.ownsRow_nil _ _ _ _) b2
  have O2 := hid1 o2
  clear o2 b2
  go_wp2_with fail
  refine (rfour_any w1.heap.size 4 cs.length a2 m2 c2 _ w2 B2.size (by decide) O2.out).mono ?_
  rintro e w3 ⟨a3, m3, c3, rfl, o3, b3⟩
  have B3 := bl_own B2 O2.out b3
  obtain ⟨rfl, -, y3⟩ := own_slice8 o3 (app_lt (four_lt _) (four_lt _))
  have O3 := hid1 o3
  clear o3 b3 O2 B2
  go_wp2_with fail
  refine gen_calls (fun W => Below w1.heap.size w1 W ∧ W.ownsRow w1.heap.size 5 1 (.slice a3 (four m ++ four cs.length).length c3) 8 (u8s (four m ++ four cs.length)) ∧ Bys W (some ⟨w3.heap.size, 0, none⟩) [four m ++ four cs.length]) ⟨bl_alloc B3 _, O3.out.alloc _, bys_one _ _ _ _ _ y3⟩ ?_
  clear O3 y3 B3
  rintro W4 ⟨B4, o4, y4⟩
  refine (rsum_one w3.heap.size 1 _ W4 (by simp [four_len]) y4).mono ?_
  rintro e w5 ⟨rfl, rfl⟩
  have O5 := hid1 o4
  clear o4 y4
  go_wp2_with fail
  refine (rfour_any w1.heap.size 8 (crc (four m ++ four cs.length)) a3 _ c3 _ w5 B4.size (by decide) O5.out).mono ?_
  rintro e w6 ⟨a6, m6, c6, rfl, o6, b6⟩
  have B6 := bl_own B4 O5.out b6
  have O6 : Hid (w6.ownsRow w1.heap.size 5 1 (.slice a6 m6 c6) 12 (u8s (hdB m cs.length))) := hid1 (by unfold hdB; exact o6)
  clear o6 b6 O5 B4 wl
  go_wp2_with fail
  go_loopw [6, 8] (fun b i wr => ∃ (k : Nat) (a : Option Addr) (q c x : Nat), k ≤ cs.length ∧ i = .int .i64 k ∧ b = .slice a q c ∧ Hid (x = szT cs k) ∧ Hid (wr.ownsRow w1.heap.size 5 1 (.slice a q c) x (u8s (hdB m cs.length ++ cksB (cs.take k)))) ∧ Below w1.heap.size w1 wr) (fun _ i _ => cs.length - (intOf i).toNat)
  case atStart => exact ⟨0, a6, m6, c6, 12, Nat.zero_le _, rfl, rfl, hid1 rfl, hid1 (by simpa [cksB] using O6.out), B6⟩
  case round =>
    clear O6 B6
    obtain ⟨k, a, q, c, x, hk, rfl, rfl, HV, HO, hnx⟩ := hrel
    have ik0 : (0 : Int) ≤ (k : Int) := by omega
    by_cases hlt : k < cs.length
    · have ik : (k : Int) < (cs.length : Int) := by omega
      obtain ⟨gl, ol, ao, cap, rfl, c1, c2, b, r1, r2⟩ := H.out.at hlt
      have HC1 := hid1 c1
      have HC2 := hid1 c2
      replace c1 := keepc hnx c1
      have HN : Hid (x + (12 + cs[k].2.length + 4) = szT cs (k + 1)) := hid1 (by rw [szT_succ hlt, HV.out])
      have bv := (ZT.out (k + 1) (by omega)).2
      rw [← HN.out] at bv
      have HC : Hid (∀ l, l = cs[k].2 → hdB m cs.length ++ cksB (cs.take (k + 1)) = hdB m cs.length ++ cksB (cs.take k) ++ hdB cs[k].1 l.length ++ l ++ four (crc l)) := hid1 fun l hl => by
        rw [hl, cksB_succ hlt]
        simp only [ckB, List.append_assoc]
      have hbl : Hid (∀ y ∈ hdB m cs.length ++ cksB (cs.take k), y < 256) := hid1 (app_lt (hdB_lt _ _) (cksB_lt fun c hc => OK.out c (List.mem_of_mem_take hc)))
      obtain ⟨l, el⟩ : ∃ l, cs[k].2 = l := ⟨_, rfl⟩
      obtain ⟨tg, et⟩ : ∃ t, cs[k].1 = t := ⟨_, rfl⟩
      replace HC := hid1 (HC.out l el.symm)
      rw [el] at b r2 HC2 HN bv
      rw [et] at c1 HC1 r1 HC
      have BB := hid1 b
      have wl : IntKind.u32.wrap (l.length : Int) = (l.length : Int) := by simp [IntKind.wrap, IntKind.signed, IntKind.bits]; omega
      clear b el et c2
      obtain ⟨P, eP⟩ : ∃ P, hdB m cs.length ++ cksB (cs.take k) = P := ⟨_, rfl⟩
      rw [eP] at HO HC hbl
      clear eP
      go_wp2_with fail
      refine (rfour_any wr.heap.size 0 tg none 0 0 [] wr (Nat.le_refl _) (by decide) (World.ownsRow_nil _ _ _ _)).mono ?_
      rintro e v2 ⟨a2, m2, c2, rfl, o2, b2⟩
      rw [List.nil_append, Nat.zero_add] at o2
      have D2 := bl_own (T := 5) (Below.refl _ wr) (World.ownsRow_nil _ _ _ _) b2
      have O2 := hid1 o2
      have c3 := keepc (bl_step hnx D2) HC2.out
      clear o2 b2 c1
      go_wp2_with fail
      refine (rfour_any wr.heap.size 4 l.length a2 m2 c2 _ v2 D2.size (by decide) O2.out).mono ?_
      rintro e v3 ⟨a3, m3, c4, rfl, o3, b3⟩
      have D3 := bl_own D2 O2.out b3
      obtain ⟨rfl, -, y3⟩ := own_slice8 o3 (app_lt (four_lt _) (four_lt _))
      have O3 := hid1 o3
      clear o3 b3 O2 D2 c3
      go_wp2_with fail
      refine gen_calls (fun W => Below wr.heap.size wr W ∧ W.ownsRow wr.heap.size 5 1 (.slice a3 (four tg ++ four l.length).length c4) 8 (u8s (four tg ++ four l.length)) ∧ Bys W (some ⟨v3.heap.size, 0, none⟩) [four tg ++ four l.length]) ⟨bl_alloc D3 _, O3.out.alloc _, bys_one _ _ _ _ _ y3⟩ ?_
      clear O3 y3 D3
      rintro V4 ⟨D4, o4, y4⟩
      refine (rsum_one v3.heap.size 1 _ V4 (by simp [four_len]) y4).mono ?_
      rintro e v5 ⟨rfl, rfl⟩
      have O5 := hid1 o4
      clear o4 y4
      go_wp2_with fail
      refine (rfour_any wr.heap.size 8 (crc (four tg ++ four l.length)) a3 _ c4 _ v5 D4.size (by decide) O5.out).mono ?_
      rintro e v6 ⟨a6, m6, c6, rfl, o6, b6⟩
      have D6 := bl_own D4 O5.out b6
      replace o6 : v6.ownsRow wr.heap.size 5 1 (.slice a6 m6 c6) 12 (u8s (hdB tg l.length)) := by unfold hdB; exact o6
      obtain ⟨e6, -, y6⟩ := own_slice8 o6 (hdB_lt _ _)
      rw [hdB_len] at e6
      subst e6
      have Y6 := hid1 y6
      have B6' := bl_step hnx D6
      have P6 := hid1 (own_keep (S := fun _ => False) (BP.bel D6) HO.out (fun _ _ h => h))
      have z6 := B6'.size
      have c7 := keepc B6' HC2.out
      have BY6 := hid1 (BB.out.keep B6')
      clear o6 b6 y6 O5 D4 D6
      have s1 : x + 12 ≤ 1099511627776 := by omega
      have s2 : x + 12 + l.length ≤ 1099511627776 := by omega
      have s3 : x + 12 + l.length ≤ 16777216 := by omega
      clear wl
      go_wp2_with (first
        | (at_builtin; refine wp_app8 rfl (.tmp 58) (.tmp 59) rfl w1.heap.size x (.slice a q c) P (by go_simp) P6.out z6 a6 12 c6 (hdB tg l.length) (by go_simp) (hdB_len _ _) Y6.out s1 ?_; intro v7 w7 own7 gr7; obtain ⟨a7, m7, c8, rfl⟩ := own_is own7; have O7 := hid1 own7; have B7 := bl_own B6' P6.out ((BP.grown gr7).mono fun _ _ h => h.symm); have c9 := keepc B7 HC2.out; have BY7 := hid1 (BB.out.keep B7); have z7 := B7.size; clear own7 gr7)
        | (at_builtin; refine wp_app8 rfl (.tmp 61) (.tmp 66) rfl w1.heap.size (x + 12) (.slice a7 m7 c8) (P ++ hdB tg l.length) (by go_simp) O7.out z7 ao l.length cap l (by go_simp) rfl BY7.out s2 ?_; intro v9 w9 own9 gr9; obtain ⟨a9, m9, c10, rfl⟩ := own_is own9; have O9 := hid1 own9; have B9 := bl_own B7 O7.out ((BP.grown gr9).mono fun _ _ h => h.symm); have c11 := keepc B9 HC2.out; have BY9 := hid1 (BB.out.keep B9); clear own9 gr9))
      refine gen_calls (fun W => Below w1.heap.size w1 W ∧ W.ownsRow w1.heap.size 5 1 (.slice a9 m9 c10) (x + 12 + l.length) (u8s (P ++ hdB tg l.length ++ l)) ∧ Bys W (some ⟨w9.heap.size, 0, none⟩) [l]) ⟨bl_alloc B9 _, O9.out.alloc _, bys_one _ _ _ _ _ BY9.out⟩ ?_
      clear O9 B9 O7 B7 P6 B6' c7 c9 c11 BY6 BY7 BY9 Y6 z6 z7
      rintro W10 ⟨B10, o10, y10⟩
      refine (rsum_one w9.heap.size 1 l W10 (by omega) y10).mono ?_
      rintro e w11 ⟨rfl, rfl⟩
      have O11 := hid1 o10
      clear o10 y10
      go_wp2_with fail
      refine (rfour_any w1.heap.size (x + 12 + l.length) (crc l) a9 m9 c10 _ w11 B10.size s3 O11.out).mono ?_
      rintro e w12 ⟨a12, m12, c12, rfl, o12, b12⟩
      have B12 := bl_own B10 O11.out b12
      have O12 := hid1 o12
      clear o12 b12 O11 B10
      go_wp2_with fail
      refine ⟨⟨k + 1, a12, m12, c12, x + 12 + l.length + 4, by omega, by go_num, rfl, hid1 (by rw [← HN.out]; omega), hid1 ?_, B12⟩, by simp [intOf]; omega⟩
      rw [HC.out]
      exact O12.out
    · obtain rfl : k = cs.length := by omega
      have ex : x = n := by rw [HV.out, EF.out]
      subst ex
      have hO := HO.out
      rw [List.take_length] at hO
      obtain ⟨e1, e2, -⟩ := own_slice8 hO (cont_lt m OK.out)
      rw [e2] at e1
      subst e1
      have HO2 := hid1 hO
      clear hO
      go_wp2
      go_ret2
      exact ⟨a, c, rfl, HO2.out, hnx⟩
end Go.Proofs.YtbpglkhgggokcaaDoor
