/- CHUNKS: the reader: chunk. -/
import Derived.Test.YtbpglkhgggokcaaDoorCW6
namespace Go.Proofs.YtbpglkhgggokcaaDoor
open Go.RowKit

/-- A chunk's two cells. -/
def cf (t : Int) (v : Value) : Nat → Value := fun k => if k = 0 then .int .u32 t else v
theorem cf_new (w : World) (t : Int) (v : Value) (T : TypeId) : (w.alloc (.cells #[.int .u32 t, v] T)).rowIs w.heap.size T 2 (cf t v) :=
  World.rowIs_alloc w _ T _ (fun i hi => by
    rcases i with _ | _ | i
    · rfl
    · rfl
    · simp at hi; omega)
theorem cf_tag {w : World} {b T : Nat} {t : Int} {v : Value} (h : w.rowIs b T 2 (cf t v)) : w.cell? ⟨b, 0, none⟩ = some (.int .u32 t) := h.cell (by omega)
theorem cf_body {w : World} {b T : Nat} {t : Int} {v : Value} (h : w.rowIs b T 2 (cf t v)) : w.cell? ⟨b, 1, none⟩ = some v := h.cell (by omega)
theorem size_u8 : (Tryd.prog.info? 5).map (·.size) = some 1 := by kernel_rfl
/-- Bytes are copied into a row that was just made. -/
theorem wp_copy8 {w : World} {ops : Array Oper} {rest : List Oper} {o : Oper} {a : Act} {Q : Exit → Act → World → Prop} (hgd : o.guard = none) (d s : Operand)
    (ho : o.op = .call { callee := .builtin .copy, args := #[d, s], argTypes := #[25, 25] }) (base g n : Nat) (hd : a.eval d = .slice (some ⟨g, 0, none⟩) n n) (z : Nat → Value)
    (hrow : w.rowIs g 5 n z) (hg : w.heap.size = g + 1) (ao : Option Addr) (c : Nat) (b : List Nat) (hs : a.eval s = .slice ao n c) (hm : b.length = n) (hb : By w ao b) (hbase : base ≤ g) (hmax : n ≤ maxLen)
    (h : ∀ w', w'.ownsRow base 5 1 (.slice (some ⟨g, 0, none⟩) n n) n (u8s b) → BP (· = g) w w' → wpList Tryd.prog ops Q rest (a.put o.dst (goInt n)) w') : wpList Tryd.prog ops Q (o :: rest) a w := by
  obtain ⟨cur, h1, h2, h3⟩ := hrow
  have e1 : (u8s b).length = n := by simp [u8s, hm]
  refine wpList_copy_splice hgd d s _ _ ho 5 und_u8s size_u8 _ _ n n n c hd hs g 0 cur.toList 5 (by simpa using h1) (u8s b) (by simp [u8s, hm]) (fun hp => ⟨rfl, ?_⟩) (by simp [u8s, hm, h2]) (u8s_one b) g w (Below.refl _ _) (Nat.le_refl _) ?_
  · obtain ⟨gg, oo, rfl⟩ := fst_some hb (by omega)
    exact ⟨_, rfl, hb.news⟩
  · intro w' hw hB
    have hw := hw.out
    rw [e1]
    refine h w' ⟨by simp [u8s, hm], .inr ⟨g, n, _, rfl, hbase, hw, Nat.le_refl _, hmax, ?_, ?_⟩⟩ ⟨hB.os, hB.tape, hB.output, hB.size, fun k hk hne => hB.block k (by omega)⟩
    · simp [splice, u8s, hm, h2]
    · simp [splice, u8s, hm]
theorem Rf.bp {S : Nat → Prop} {W X : World} {r : Nat} {e : Int} (h : Rf W r e) (hb : BP S W X) (hs : ¬ S r) : Rf X r e := by
  obtain ⟨ao, n, cap, h1⟩ := h
  exact ⟨ao, n, cap, hb.row hs h1⟩
theorem two_set {w : World} {b : Nat} {u v : Value} : BP (· = b) w ((w.setCell ⟨b, 0, none⟩ u).setCell ⟨b, 1, none⟩ v) := BP.set (S := (· = b)) (BP.set (S := (· = b)) (BP.refl _ _) (.inl rfl) _) (.inl rfl) _
theorem BP.new {S : Nat → Prop} {w w1 w2 : World} {b : Nat} (h : BP S w w1) (h2 : BP (· = b) w1 w2) (hb : w.heap.size ≤ b) : BP S w w2 := h.trans h2 fun x hx e => by omega
set_option maxHeartbeats 1600000 in
set_option maxRecDepth 100000 in
theorem chunk_fault (r : Nat) (l : List Nat) (w : World) (LD : Laid w) (hr : r ≠ 0) (h : Rs w r l) (hs : ckE l ≠ 0) :
    Calls Tryd.prog 26 #[rp r] w fun x w' => x = .returned (.agg #[.int .u32 0, .slice none 0 0]) ∧ Rf w' r (ckE l : Nat) ∧ BP (· = r) w w' := by
  have H := hid1 h
  have LL := hid1 LD
  have lp := LD.pos
  have hrl : r < w.heap.size := by obtain ⟨ao, n, cap, h1⟩ := h.row; exact h1.lt
  clear h LD
  by_cases h1 : smE 8 l = 0
  · have ee : ckE l = smE (ckN l) (l.drop 12) := by unfold ckE; rw [if_pos h1]
    rw [ee] at hs ⊢
    have HG := hid1 (fun w h2 h3 => head_good r l w h2 hr h3 h1)
    have LN : Hid (ckN l ≤ 4294967296) := hid1 (by
      obtain ⟨ao, cap, _, hb, _⟩ := H.out
      have := num_lt (l := l.drop 4) fun x hx => hb.byte x (List.mem_of_mem_drop hx)
      unfold ckN; omega)
    have HF := hid1 (fun w h2 h3 => summed_fault r (ckN l) (l.drop 12) w h2 hr h3 LN.out hs)
    obtain ⟨q, eq⟩ : ∃ q, ckN l = q := ⟨_, rfl⟩
    obtain ⟨e, ee2⟩ : ∃ e, smE (ckN l) (l.drop 12) = e := ⟨_, rfl⟩
    rw [ee2] at HF hs ⊢
    rw [eq] at HG HF
    have h1' : ¬ (e : Int) = 0 := by omega
    clear h1 ee eq ee2 LN
    go_enter Tryd.func26, Tryd.ntmps26
    go_wp2_with fail
    have B0 := bl_alloc (Below.refl w.heap.size w) (.cells #[.int .u32 0, .slice none 0 0] 44)
    refine gen_calls (fun W => Below w.heap.size w W ∧ W.rowIs w.heap.size 44 2 (cf 0 (.slice none 0 0))) ⟨B0, cf_new _ _ _ _⟩ ?_
    clear B0
    rintro W ⟨B0, k2⟩
    refine (HG.out W (LL.out.on B0) (H.out.keep B0)).mono ?_
    rintro x w1 ⟨rfl, hR, bp⟩
    replace k2 := bp.row (by omega) k2
    have B1 : BP (· = r) w w1 := (BP.bel (S := (· = r)) B0).trans bp fun _ _ h => h
    clear bp B0
    go_wp2_with fail
    refine (HF.out w1 (LL.out.bp B1 (fun h => hr h.symm)) hR).mono ?_
    rintro x w2 ⟨⟨ao, m, cap, rfl⟩, hf, bp⟩
    replace k2 := bp.row (by omega) k2
    have c1 := hf.fault
    have FF := hid1 hf
    have B2 := B1.trans bp fun _ _ h => h
    have z2 : w.heap.size < w2.heap.size := k2.lt
    have f0 := k2.frozen 0
    have f1 := k2.frozen 1
    have k0 := cf_tag k2
    have k1 := cf_body k2
    clear bp B1 hf hR k2
    go_wp2_with fail
    exact bodyPost_ret (v := .agg #[.int .u32 0, .slice none 0 0]) (by simp [results, Tryd.results26, go_sem, k0, k1]) rfl ⟨rfl, FF.out.bp two_set (by omega), B2.new two_set (Nat.le_refl _)⟩
  · have ee : ckE l = smE 8 l := by unfold ckE; rw [if_neg h1]
    rw [ee]
    have HF := hid1 (fun w h2 h3 => head_fault r l w h2 hr h3 h1)
    obtain ⟨e, ee2⟩ : ∃ e, smE 8 l = e := ⟨_, rfl⟩
    rw [ee2] at HF h1 ⊢
    have h1' : ¬ (e : Int) = 0 := by omega
    clear hs ee ee2
    go_enter Tryd.func26, Tryd.ntmps26
    go_wp2_with fail
    have B0 := bl_alloc (Below.refl w.heap.size w) (.cells #[.int .u32 0, .slice none 0 0] 44)
    refine gen_calls (fun W => Below w.heap.size w W ∧ W.rowIs w.heap.size 44 2 (cf 0 (.slice none 0 0))) ⟨B0, cf_new _ _ _ _⟩ ?_
    clear B0
    rintro W ⟨B0, k2⟩
    refine (HF.out W (LL.out.on B0) (H.out.keep B0)).mono ?_
    rintro x w1 ⟨rfl, hf, bp⟩
    replace k2 := bp.row (by omega) k2
    have B1 : BP (· = r) w w1 := (BP.bel (S := (· = r)) B0).trans bp fun _ _ h => h
    have FF := hid1 hf
    clear bp B0 hf
    go_wp2_with fail
    refine (summed_bad r 0 e w1 FF.out h1').mono ?_
    rintro x w2 ⟨rfl, rfl⟩
    have c1 := FF.out.fault
    have z2 : w.heap.size < w2.heap.size := k2.lt
    have f0 := k2.frozen 0
    have f1 := k2.frozen 1
    have k0 := cf_tag k2
    have k1 := cf_body k2
    clear k2
    go_wp2_with fail
    exact bodyPost_ret (v := .agg #[.int .u32 0, .slice none 0 0]) (by simp [results, Tryd.results26, go_sem, k0, k1]) rfl ⟨rfl, FF.out.bp two_set (by omega), B1.new two_set (Nat.le_refl _)⟩
theorem Rs.bp {S : Nat → Prop} {W X : World} {r : Nat} {l : List Nat} (h : Rs W r l) (hb : BP S W X) (hs : ∀ b, S b → r < b) : Rs X r l := by
  obtain ⟨ao, cap, h1, h2, h3, h4, h5⟩ := h
  exact ⟨ao, cap, hb.row (fun k => Nat.lt_irrefl _ (hs r k)) h1, h2.bp hb (fun p hp hl k => Nat.lt_asymm (h5 p hp hl) (hs _ k)), h3, h4, h5⟩
theorem info_u8' : (Tryd.prog.info? 5).map (fun i => (i.zero, i.size, i.bytes)) = some (some (.int .u8 0), 1, 1) := info_u8
set_option maxHeartbeats 3200000 in
set_option maxRecDepth 100000 in
theorem chunk_good (r : Nat) (l : List Nat) (w : World) (LD : Laid w) (hr : r ≠ 0) (h : Rs w r l) (hs : ckE l = 0) :
    Calls Tryd.prog 26 #[rp r] w fun x w' => (∃ g, x = .returned (.agg #[.int .u32 ((ckV l).1 : Nat), .slice (some ⟨g, 0, none⟩) (ckV l).2.length (ckV l).2.length]) ∧ w'.ownsRow w.heap.size 5 1 (.slice (some ⟨g, 0, none⟩) (ckV l).2.length (ckV l).2.length) (ckV l).2.length (u8s (ckV l).2)) ∧ Rs w' r (ckR l) ∧ BP (· = r) w w' := by
  obtain ⟨i0, hi, hz0, hz1, hz2⟩ := info_parts info_u8
  have H := hid1 h
  have LL := hid1 LD
  have lp := LD.pos
  have hrl : r < w.heap.size := by obtain ⟨ao, n, cap, h1⟩ := h.row; exact h1.lt
  have hby : ∀ x ∈ l, x < 256 := by obtain ⟨ao, cap, _, hb, _⟩ := h; exact hb.byte
  have hll : l.length ≤ 281474976710656 := by obtain ⟨ao, cap, _, hb, h3, h4, _⟩ := h; omega
  obtain ⟨d1, d2, d3⟩ := ck_zero hby hs
  have h1 : smE 8 l = 0 := by
    refine Classical.byContradiction fun hn => ?_
    unfold ckE at hs
    rw [if_neg hn] at hs
    exact hn hs
  have h2 : smE (ckN l) (l.drop 12) = 0 := by
    unfold ckE at hs
    rw [if_pos h1] at hs
    exact hs
  have LN : Hid (ckN l ≤ 4294967296) := hid1 (by
    have := num_lt (l := l.drop 4) fun x hx => hby x (List.mem_of_mem_drop hx)
    unfold ckN; omega)
  have HG := hid1 (fun w h2 h3 => head_good r l w h2 hr h3 h1)
  have HF := hid1 (fun w h3 h4 => summed_good r (ckN l) (l.drop 12) w h3 hr h4 LN.out h2)
  have qb : ckN l ≤ 281474976710656 := by
    have e : l.length = (ckB (ckV l) ++ ckR l).length := congrArg List.length d1
    rw [List.length_append, ckB_len] at e
    omega
  have EV : Hid ((ckV l).2 = (l.drop 12).take (ckN l)) := hid1 rfl
  have ER : Hid (ckR l = (l.drop 12).drop (ckN l + 4)) := hid1 rfl
  have E1 : Hid ((ckV l).1 = num l) := hid1 rfl
  rw [← EV.out, ← ER.out] at HF
  rw [← E1.out] at HG
  obtain ⟨b, eb⟩ : ∃ b, (ckV l).2 = b := ⟨_, rfl⟩
  obtain ⟨tg, et⟩ : ∃ t, (ckV l).1 = t := ⟨_, rfl⟩
  obtain ⟨rs, er⟩ : ∃ s, ckR l = s := ⟨_, rfl⟩
  obtain ⟨q, eq⟩ : ∃ q, ckN l = q := ⟨_, rfl⟩
  rw [eb] at HF d3 ⊢
  rw [er] at HF ⊢
  rw [et] at HG ⊢
  rw [eq] at HG HF d3 qb
  rw [d3]
  clear h LD hs h1 h2 d1 d2 LN EV ER E1 eb et er eq
  go_enter Tryd.func26, Tryd.ntmps26
  go_wp2_with fail
  have B0 := bl_alloc (Below.refl w.heap.size w) (.cells #[.int .u32 0, .slice none 0 0] 44)
  refine gen_calls (fun W => Below w.heap.size w W ∧ W.rowIs w.heap.size 44 2 (cf 0 (.slice none 0 0))) ⟨B0, cf_new _ _ _ _⟩ ?_
  clear B0
  rintro W ⟨B0, k2⟩
  refine (HG.out W (LL.out.on B0) (H.out.keep B0)).mono ?_
  rintro x w1 ⟨rfl, hR, bp⟩
  replace k2 := bp.row (by omega) k2
  have B1 : BP (· = r) w w1 := (BP.bel (S := (· = r)) B0).trans bp fun _ _ h => h
  clear bp B0
  go_wp2_with fail
  refine (HF.out w1 (LL.out.bp B1 (fun h => hr h.symm)) hR).mono ?_
  rintro x w2 ⟨⟨ao, cap, rfl, hb, _, hR2⟩, bp⟩
  replace k2 := bp.row (by omega) k2
  have c1 := hR2.row.fault
  have RR := hid1 hR2
  have BB := hid1 hb
  have KK := hid1 k2
  have B2 := B1.trans bp fun _ _ h => h
  have z2 : w.heap.size < w2.heap.size := k2.lt
  clear bp B1 hR hR2 k2 hb
  go_wp2_with (first
    | (refine wp_copy8 rfl _ _ rfl w.heap.size w2.heap.size q (by go_simp) _ HROW.out hz ao cap b (by go_simp) d3 (BB.out.keep B3) (by omega) (by unfold maxLen; omega) ?_; intro w4 own4 bp4; have OO := hid1 own4; have k4 := bp4.row (by omega) (keepr B3 KK.out); have f0 := k4.frozen 0; have f1 := k4.frozen 1; have k0 := cf_tag k4; have k1 := cf_body k4; have z4 := k4.lt; clear own4 k4)
    | (refine wpList_make_row _ rfl _ _ 25 rfl 5 i0 (.int .u8 0) und_u8s hi hz0 hz1 rfl .i64 .i64 q (by go_simp) (by go_simp) (by rw [hz2]; omega) (by omega) ?_; refine gen_list (fun W => Below w2.heap.size w2 W ∧ W.rowIs w2.heap.size 5 q (fun _ => .int .u8 0) ∧ W.heap.size = w2.heap.size + 1) ⟨bl_alloc (Below.refl _ _) _, World.rowIs_made w2 (.int .u8 0) q 5, by simp⟩ ?_; rintro W1 ⟨B3, hrow, hz⟩; have HROW := hid1 hrow; clear hrow))
  have Bx : BP (· = w.heap.size) w2 ((w4.setCell ⟨w.heap.size, 0, none⟩ (.int .u32 tg)).setCell ⟨w.heap.size, 1, none⟩ (.slice (some ⟨w2.heap.size, 0, none⟩) q q)) :=
    ((BP.bel (S := (· = w.heap.size)) B3).trans bp4 fun x hx e => by omega).trans two_set fun x _ e => e
  refine bodyPost_ret (v := .agg #[.int .u32 tg, .slice (some ⟨w2.heap.size, 0, none⟩) q q]) (by simp [results, Tryd.results26, go_sem, k0, k1]) rfl ⟨⟨w2.heap.size, rfl, two_set.own OO.out fun b hb => ?_⟩, RR.out.bp Bx (fun b hb => by omega), B2.trans Bx fun x hx e => by omega⟩
  · injection hb with hb
    subst hb
    show ¬ w2.heap.size = w.heap.size
    omega
end Go.Proofs.YtbpglkhgggokcaaDoor
