/- CHUNKS: Read. -/
import Derived.Test.YtbpglkhgggokcaaDoorCW8
namespace Go.Proofs.YtbpglkhgggokcaaDoor
open Go.RowKit

theorem rs_new {w : World} {ao : Option Addr} {l : List Nat} {cap : Nat} (hb : By w ao l) (hc : l.length ≤ cap ∧ l.length ≤ 281474976710656) (hc2 : cap ≤ 9223372036854775807) : Rs (w.alloc (.cells #[.slice ao l.length cap, .int .i64 0] 59)) w.heap.size l :=
  ⟨ao, cap, rf_new _ _ _ _ _ _, hb.keep (bl_alloc (Below.refl _ _) _), hc, hc2, fun p hp hl => by
    subst hp
    obtain ⟨g, o, x, e, _, c, _⟩ := hb.at (k := 0) (List.length_pos_iff.2 hl)
    injection e with e
    subst e
    exact lt_of_cell c⟩
theorem cell_chunk_new (w : World) (a b : Value) (t : TypeId) : ∀ (j : Nat) (u : Value), [a, b][j]? = some u → (w.alloc (.cells #[a, b] t)).cell? ((⟨w.heap.size, 0, none⟩ : Addr).add j) = some u := by
  intro j u h
  rcases j with _ | _ | j
  · simp at h; subst h; simp [Addr.add, go_sem]
  · simp at h; subst h; simp [Addr.add, go_sem]
  · simp at h
/-- The reader's own block is none of an answer's. -/
theorem Ans.reader {W X : World} {z r : Nat} {v : Value} {cs : List Ck} {gs : List Nat} {e : Int} (h : Ans W z v cs gs) (hf : Rf W r e) (hb : BP (· = r) W X) : Ans X z v cs gs := by
  obtain ⟨ao, n, cap, hrow⟩ := hf
  refine h.bp hb (fun b hb2 he => ?_) fun b hb2 he => ?_
  · have he : b = r := he
    subst he
    exact own_row_ne h.own hrow (by decide) hb2
  · have he : b = r := he
    subst he
    obtain ⟨j, hj⟩ := List.getElem?_of_mem hb2
    have hl : j < cs.length := by
      rw [h.len]
      refine Classical.byContradiction fun hn => ?_
      rw [List.getElem?_eq_none (by omega)] at hj
      exact absurd hj (by simp)
    exact own_row_ne (h.body j _ b (List.getElem?_eq_getElem hl) hj) hrow (by decide) rfl
set_option maxHeartbeats 800000 in
set_option maxRecDepth 100000 in
theorem end_bad (r : Nat) (e0 : Int) (w : World) (h : Rf w r e0) (h0 : e0 ≠ 0) :
    Calls Tryd.prog 27 #[rp r] w fun x w' => x = .returned (.tuple #[]) ∧ w' = w := by
  obtain ⟨ao, n, cap, h⟩ := h
  have c0 := rf_left h
  have HR := hid1 h
  clear h
  go_enter Tryd.func27, Tryd.ntmps27
  go_wp2_with fail
  refine (refuse_no r n cap ao _ e0 82 w HR.out (.inr h0)).mono ?_
  rintro e w1 ⟨rfl, rfl⟩
  go_wp2_with fail
  exact bodyPost_end (v := .tuple #[]) (by simp [results, go_sem]) rfl ⟨rfl, rfl⟩
set_option maxHeartbeats 800000 in
set_option maxRecDepth 100000 in
theorem read_long (m : Nat) (ao : Option Addr) (n cap : Nat) (w : World) (hn : 16777216 < n) :
    Calls Tryd.prog 9 #[.int .u32 m, .slice ao n cap] w fun x w' => x = .returned (.tuple #[.slice none 0 0, .int .i64 2]) ∧ Below w.heap.size w w' := by
  have i1 : (16777216 : Int) < (n : Int) := by omega
  go_enter Tryd.func9, Tryd.ntmps9
  go_wp2
  go_ret2
  exact ⟨rfl, Below.refl _ _⟩
set_option maxHeartbeats 3200000 in
set_option maxRecDepth 100000 in
theorem read_some (m : Nat) (ao : Option Addr) (cap : Nat) (l : List Nat) (w : World) (LD : Laid w) (hb : By w ao l) (hc : l.length ≤ cap) (hc2 : cap ≤ 9223372036854775807) (hl : l.length ≤ 16777216) :
    Calls Tryd.prog 9 #[.int .u32 m, .slice ao l.length cap] w fun x w' =>
      (readE m l = 0 → ∃ v gs, x = .returned (.tuple #[v, .int .i64 0]) ∧ Ans w' w.heap.size v (readV l) gs) ∧ (readE m l ≠ 0 → x = .returned (.tuple #[.slice none 0 0, .int .i64 (readE m l : Nat)])) ∧ Below w.heap.size w w' := by
  obtain ⟨i0, hi, hz0, hz1, hz2⟩ := info_parts info_chunk
  have LL := hid1 LD
  have lp := LD.pos
  have HB := hid1 hb
  have i1 : ¬ (16777216 : Int) < (l.length : Int) := by omega
  have RE : Hid (readE m l = if opE m l = 0 then rdE (ckN l) (l.drop 12) else opE m l) := hid1 (by unfold readE; rw [if_neg (by omega)])
  have RV : Hid (readV l = rdV (ckN l) (l.drop 12)) := hid1 rfl
  obtain ⟨E, eE⟩ : ∃ E, readE m l = E := ⟨_, rfl⟩
  obtain ⟨V, eV⟩ : ∃ V, readV l = V := ⟨_, rfl⟩
  rw [eE] at RE ⊢
  rw [eV] at RV ⊢
  clear LD hb eE eV
  go_enter Tryd.func9, Tryd.ntmps9
  go_wp2_with fail
  refine gen_calls (fun W => Below w.heap.size w W ∧ Rs W w.heap.size l) ⟨bl_alloc (Below.refl _ _) _, rs_new HB.out ⟨hc, by omega⟩ hc2⟩ ?_
  rintro W ⟨B0, R0⟩
  have hr : w.heap.size ≠ 0 := by omega
  have zc : ∀ {X Y : World}, Below w.heap.size w X → BP (· = w.heap.size) X Y → Below w.heap.size w Y := fun h k => bl_but h k (Nat.le_refl _)
  by_cases ho : opE m l = 0
  · have OG := hid1 (open_good w.heap.size m l W (LL.out.on B0) hr R0 ho)
    have CN : Hid (ckN l ≤ 1024) := hid1 (by
      unfold opE at ho
      by_cases h1 : smE 8 l = 0
      · rw [if_pos h1] at ho
        by_cases h2 : num l = m
        · rw [if_pos h2] at ho
          by_cases h3 : 1024 < ckN l
          · rw [if_pos h3] at ho; exact absurd ho (by decide)
          · omega
        · rw [if_neg h2] at ho; exact absurd ho (by decide)
      · rw [if_neg h1] at ho; exact absurd ho h1)
    replace RE : Hid (E = rdE (ckN l) (l.drop 12)) := hid1 (by rw [RE.out, if_pos ho])
    obtain ⟨q, eq⟩ : ∃ q, ckN l = q := ⟨_, rfl⟩
    rw [eq] at OG CN RV RE
    have cn := CN.out
    have ll : (l.drop 12).length ≤ 16777216 := by simp; omega
    clear R0 ho eq
    refine OG.out.mono ?_
    rintro x w1 ⟨rfl, hR, bp⟩
    have B1 := zc B0 bp
    have RR := hid1 hR
    clear hR bp B0 OG
    go_wp2_with fail
    go_loopw [7, 16] (fun v i wr => ∃ (k : Nat) (pre : List Ck) (gs : List Nat) (rest : List Nat) (lo : Option Addr) (ln cp : Nat), k ≤ q ∧ i = .int .i64 k ∧ v = .slice lo ln cp ∧ Hid (pre.length = k) ∧ Hid (Ans wr w.heap.size (.slice lo ln cp) pre gs) ∧ Hid (Rs wr w.heap.size rest) ∧ Hid (E = rdE (q - k) rest ∧ V = pre ++ rdV (q - k) rest ∧ rest.length ≤ 16777216) ∧ Below w.heap.size w wr) (fun _ i _ => q - (intOf i).toNat)
    case atStart => exact ⟨0, [], [], l.drop 12, none, 0, 0, Nat.zero_le _, rfl, rfl, hid1 rfl, hid1 (Ans.nil _ _), RR, hid1 ⟨RE.out, RV.out, ll⟩, B1⟩
    case round =>
      clear RR B1 RE RV
      obtain ⟨k, pre, gs, rest, lo, ln, cp, hk, rfl, rfl, HP, HA, HR, HE, hnx⟩ := hrel
      have ik0 : (0 : Int) ≤ (k : Int) := by omega
      by_cases hlt : k < q
      · have ik : (k : Int) < (q : Int) := by omega
        obtain ⟨j, hj⟩ : ∃ j, q - k = j + 1 := ⟨q - k - 1, by omega⟩
        have hj2 : q - (k + 1) = j := by omega
        have he := HE.out
        rw [hj] at he
        simp only [rdE, rdV] at he
        obtain ⟨he1, he2, he3⟩ := he
        by_cases hck : ckE rest = 0
        · rw [if_pos hck] at he1
          have HE2 : Hid (E = rdE (q - (k + 1)) (ckR rest) ∧ V = (pre ++ [ckV rest]) ++ rdV (q - (k + 1)) (ckR rest) ∧ (ckR rest).length ≤ 16777216) := hid1 (by
            rw [hj2]
            refine ⟨he1, by rw [he2]; simp, ?_⟩
            unfold ckR; simp only [List.length_drop]; omega)
          have hby : ∀ x ∈ rest, x < 256 := by obtain ⟨ao, cap, _, hb, _⟩ := HR.out; exact hb.byte
          have OK : Hid ((ckV rest).Ok ∧ (ckV rest).2.length ≤ 281474976710656) := hid1 ⟨(ck_zero hby hck).2.1, by
            unfold ckV; simp only [List.length_take, List.length_drop]; omega⟩
          have CG := hid1 (chunk_good w.heap.size rest wr (LL.out.on hnx) hr HR.out hck)
          obtain ⟨c, ec⟩ : ∃ c, ckV rest = c := ⟨_, rfl⟩
          rw [ec] at CG HE2 OK
          clear he1 he2 he3 hby hck HE ec hj hj2
          go_wp2_with fail
          refine CG.out.mono ?_
          rintro x w2 ⟨⟨g, rfl, own2⟩, hR2, bp2⟩
          have zw := hnx.size
          have R2 := hid1 hR2
          have O2 := hid1 own2
          have gl := own2.lt g rfl
          have bp2' := hid1 bp2
          have hrow := hR2.row.fault
          have zr : w.heap.size < w2.heap.size := lt_of_cell hrow
          have AN2 : Hid (Ans w2 w.heap.size (.slice lo ln cp) pre gs) := hid1 (HA.out.reader HR.out.row bp2)
          have hpl : pre.length ≤ 1024 := by have := HP.out; omega
          have NG : Hid (g ∉ gs) := hid1 fun hg => by have := HA.out.lt g hg; omega
          clear CG hR2 own2 bp2
          go_wp2_with ((at_builtin; refine wpList_append_own _ rfl _ _ 27 rfl w.heap.size 44 i0 (.agg #[.int .u32 0, .slice none 0 0]) 2 32 und_chunks hi hz0 hz1 hz2 rfl (by decide) (.slice lo ln cp) pre.length (cvs pre gs) (by go_simp) ((AN2.out.own.alloc _).alloc _) ⟨w2.heap.size + 1, 0, none⟩ 1 1 [.int .u32 (c.1 : Nat), bval c g] (by go_simp) rfl (fun j u h => by have := cell_chunk_new (w2.alloc (.cells #[.int .u32 (c.1 : Nat), bval c g] 44)) (.int .u32 (c.1 : Nat)) (bval c g) 44 j u h; simpa using this) (fun x hx => by simp at hx; rcases hx with rfl | rfl <;> rfl) (by unfold maxLen; omega) (by omega) (by simp; omega) ?_; intro v' w3 own3 gr3 _; have O3 := hid1 own3; have G3 := hid1 gr3; clear own3 gr3))
          have AX : BP (fun b => (Value.slice lo ln cp).ownBlock = some b) w2 w3 := (BP.bel (S := fun b => (Value.slice lo ln cp).ownBlock = some b) (bl_alloc (bl_alloc (Below.refl _ _) _) _)).trans (BP.grown G3.out) fun x _ hx => hx.symm
          have hlst : ∀ b, (Value.slice lo ln cp).ownBlock = some b → w.heap.size < b := fun b hb => by
            have h1 := (AN2.out.own.lt b hb).1
            obtain ⟨_, _, _, hrw⟩ := R2.out.row
            have h2 := own_row_ne AN2.out.own hrw (by decide)
            rcases Nat.lt_or_eq_of_le h1 with h | h
            · exact h
            · subst h; exact absurd hb h2
          have AN3 := AN2.out.push (own_mono O2.out zw) NG.out OK.out.1 OK.out.2 O3.out AX
          have B3 : Below w.heap.size w w3 := bl_bp (zc hnx bp2'.out) AX fun x hx hb => by have := hlst x hb; omega
          obtain ⟨lo', ln', cp', rfl⟩ : ∃ a b c, v' = Value.slice a b c := by
            rcases O3.out.2 with ⟨_, h0⟩ | ⟨g', c', _, e, _⟩
            · omega
            · exact ⟨_, _, _, e⟩
          exact ⟨⟨k + 1, pre ++ [c], gs ++ [g], ckR rest, lo', ln', cp', by omega, by go_num, rfl, hid1 (by simp [HP.out]), hid1 AN3, hid1 (R2.out.bp AX hlst), HE2, B3⟩, by simp [intOf]; omega⟩
        · rw [if_neg hck] at he1
          have CF := hid1 (chunk_fault w.heap.size rest wr (LL.out.on hnx) hr HR.out hck)
          rw [← he1] at CF hck
          have hE : ¬ (E : Int) = 0 := by omega
          clear he1 he2 he3 HE hj hj2
          go_wp2_with fail
          refine CF.out.mono ?_
          rintro x w2 ⟨rfl, hF, bp2⟩
          have hrow := hF.fault
          have zr : w.heap.size < w2.heap.size := lt_of_cell hrow
          have B2 := hid1 (zc hnx bp2)
          clear CF hF bp2
          go_wp2_with fail
          go_quiet (fail)
          go_wp2
          go_ret2
          exact ⟨fun h => absurd h hck, fun _ => rfl, bl_drewN (bl_alloc B2.out _) _⟩
      · obtain rfl : k = q := by omega
        have he := HE.out
        rw [Nat.sub_self] at he
        simp only [rdE, rdV, List.append_nil] at he
        obtain ⟨he1, he2, _⟩ := he
        have EA := hid1 (end_any w.heap.size rest wr HR.out)
        go_wp2_with fail
        refine EA.out.mono ?_
        rintro x w2 ⟨rfl, hF, bp2⟩
        have B2 := hid1 (zc hnx bp2)
        have AN2 := hid1 (HA.out.reader HR.out.row bp2)
        by_cases hre : rest = []
        · rw [if_pos hre] at he1 hF
          have hrow := hF.fault
          clear EA hF bp2
          go_wp2
          go_ret2
          refine ⟨fun _ => ⟨_, gs, rfl, ?_⟩, fun h => absurd he1 h, B2.out⟩
          rw [he2]
          exact AN2.out
        · rw [if_neg hre] at he1 hF
          have hrow := hF.fault
          clear EA hF bp2
          go_wp2_with fail
          go_quiet (fail)
          go_wp2
          go_ret2
          exact ⟨fun h => absurd (he1.symm.trans h) (by decide), fun _ => by rw [he1]; rfl, bl_drewN B2.out _⟩
  · have OF := hid1 (open_fault w.heap.size m l W (LL.out.on B0) hr R0 ho)
    replace RE : Hid (E = opE m l) := hid1 (by rw [RE.out, if_neg ho])
    rw [← RE.out] at OF ho
    have hE : ¬ (E : Int) = 0 := by omega
    refine OF.out.mono ?_
    rintro x w1 ⟨rfl, hF, bp⟩
    have B1 := hid1 (zc B0 bp)
    have FF := hid1 hF
    clear hF bp B0 R0 OF
    go_wp2_with fail
    go_loopw [16] (fun i wr => i = .int .i64 0 ∧ wr = w1) (fun _ _ => 0)
    case atStart => exact ⟨rfl, rfl⟩
    case round =>
      obtain ⟨rfl, rfl⟩ := hrel
      have hrow := FF.out.fault
      go_wp2_with fail
      refine (end_bad w.heap.size E _ FF.out hE).mono ?_
      rintro x w2 ⟨rfl, rfl⟩
      go_wp2_with fail
      go_quiet (fail)
      go_wp2
      go_ret2
      exact ⟨fun h => absurd h ho, fun _ => rfl, bl_drewN B1.out _⟩
/-- Read, of all bytes. -/
theorem read_any (m : Nat) (ao : Option Addr) (cap : Nat) (l : List Nat) (w : World) (LD : Laid w) (hb : By w ao l) (hc : l.length ≤ cap) (hc2 : cap ≤ 9223372036854775807) :
    Calls Tryd.prog 9 #[.int .u32 m, .slice ao l.length cap] w fun x w' =>
      (readE m l = 0 → ∃ v gs, x = .returned (.tuple #[v, .int .i64 0]) ∧ Ans w' w.heap.size v (readV l) gs) ∧ (readE m l ≠ 0 → x = .returned (.tuple #[.slice none 0 0, .int .i64 (readE m l : Nat)])) ∧ Below w.heap.size w w' := by
  by_cases hl : l.length ≤ 16777216
  · exact read_some m ao cap l w LD hb hc hc2 hl
  · have e : readE m l = 2 := by unfold readE; rw [if_pos (by omega)]
    refine (read_long m ao l.length cap w (by omega)).mono ?_
    rintro x w' ⟨rfl, hB⟩
    exact ⟨fun h => absurd (e.symm.trans h) (by decide), fun _ => by rw [e]; rfl, hB⟩
end Go.Proofs.YtbpglkhgggokcaaDoor
