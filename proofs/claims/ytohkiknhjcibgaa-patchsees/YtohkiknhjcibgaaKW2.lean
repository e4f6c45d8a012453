/- PACKAGE cube: Check. -/
import Derived.Test.YtohkiknhjcibgaaKW1
import Derived.Test.YtohkiknhjcibgaaKR1
namespace Go.Proofs.Ytohkiknhjcibgaa
open Go.RowKit Go.Shelf
attribute [local go_sem] Oper.semAt_some

/-- These m words, wherever they begin, read as the number N. -/
def Wr (w : World) (ao : Option Addr) (m N : Nat) : Prop := N < 2 ^ (64 * m) ∧ ∀ k, k < m → ∃ g o, ao = some ⟨g, o, none⟩ ∧ w.cell? ⟨g, o + k, none⟩ = some (wf N k)
theorem Wr.below {w w' : World} {ao : Option Addr} {m N : Nat} (h : Wr w ao m N) (hb : Below w.heap.size w w') : Wr w' ao m N :=
  ⟨h.1, fun k hk => by obtain ⟨g, o, e, c⟩ := h.2 k hk; exact ⟨g, o, e, keepc hb c⟩⟩
theorem Wr.row {w : World} {g m N : Nat} (h : w.rowIs g 41 m (wf N)) (hN : N < 2 ^ (64 * m)) : Wr w (some ⟨g, 0, none⟩) m N :=
  ⟨hN, fun k hk => ⟨g, 0, rfl, by rw [Nat.zero_add]; exact h.cell hk⟩⟩
/-- Every place's bits behind its channels are 0. -/
def Pok (n c N : Nat) : Prop := ∀ i, i < n → pl N (nw c) i < 2 ^ c
instance (n c N : Nat) : Decidable (Pok n c N) := by unfold Pok; infer_instance
/-- What Check tells. -/
def cuk (h v c : Int) (m N : Nat) : Int := if Sg.chk h v c = 0 then (if m = h.toNat * v.toNat * nw c.toNat then (if Pok (h.toNat * v.toNat) c.toNat N then 0 else 20) else 20) else Sg.chk h v c
theorem krow_own {β : Type} (b t n : Nat) (f : β → Nat → Value) : Own (fun s W => W.rowIs b t n (f s)) := by
  intro s W W' row h hg hr
  refine h.of_block (hg.block b h.lt fun e => ?_)
  obtain ⟨o, ho, hc⟩ := hr b e.symm
  obtain ⟨cs, hb, _⟩ := h
  rw [hb] at ho
  cases ho
  simp [Obj.isCells] at hc
theorem one_new (w : World) (x : Value) (t : TypeId) : (w.alloc (.cells #[x] t)).rowIs w.heap.size t 1 (fun _ => x) := by
  refine ⟨_, World.alloc_heap_new _ _, rfl, fun k hk => ?_⟩
  have : k = 0 := by omega
  subst this; rfl
theorem one_cell {w : World} {b t : Nat} {x : Value} (h : w.rowIs b t 1 (fun _ => x)) : w.cell? ⟨b, 0, none⟩ = some x := h.cell (i := 0) (by omega)
theorem one_frozen {w : World} {b t : Nat} {x : Value} (h : w.rowIs b t 1 (fun _ => x)) : w.frozen? ⟨b, 0, none⟩ = false := h.frozen 0
theorem one_set {w : World} {b t : Nat} {x : Value} (h : w.rowIs b t 1 (fun _ => x)) (y : Value) : (w.setCell ⟨b, 0, none⟩ y).rowIs b t 1 (fun _ => y) := (h.set 0 y).congr fun k hk => by
  have : k = 0 := by omega
  subst this; simp
theorem mem_upt {P : Nat} (i : Nat) (hi : i < P) : (⟨i, hi⟩ : Fin P) ∈ upt P P (Nat.le_refl _) := by
  unfold upt
  exact List.mem_map.2 ⟨⟨i, hi⟩, List.mem_finRange _, rfl⟩
theorem places_stops (n Bc h v c g o m cap : Nat) (hn : 1 ≤ n) (h1 : h ≤ 4096) (v1 : v ≤ 4096) (hc0 : 0 < c) (hc : c ≤ 4096) (hm : h * v * nw c ≤ m) (hmc : m ≤ cap) (hcap : cap ≤ 9223372036854775807) (w : World)
    (r : w.rowIs Bc 31 4 (cf h v c (some ⟨g, o, none⟩) m cap)) :
    SeqStopsK Fence.wide n Try.prog 56 #[.pointer (some ⟨Bc, 0, none⟩)] (encP (h * v) g o (nw c)) (fun W W' => W'.heap[Bc]? = W.heap[Bc]?) (fun ys => ys = upt (h * v) (h * v) (Nat.le_refl _)) (fun pre => ∃ k hk, pre = upt (h * v) k hk) (h * v) w :=
  fun l J Jx W hW hJ _ hY h0 => places1_in n l Bc h v c g o m cap hn h1 v1 hc0 hc hm hmc hcap J Jx hY W (keepr hW r) hJ h0
set_option maxHeartbeats 800000 in
set_option maxRecDepth 100000 in
theorem ccheck_shape (h v c : Int) (ao : Option Addr) (m cap : Nat) (w : World) (k : Sg.chk h v c ≠ 0) :
    Calls Try.prog 30 #[cuv h v c ao m cap] w fun e w' => e = .returned (.int .i64 (Sg.chk h v c)) ∧ Below w.heap.size w w' := by
  have HC := hid1 (Sg.words_any h v c)
  generalize Sg.chk h v c = q at *
  generalize Sg.woN h v c = u at *
  go_enter Try.func30, Try.ntmps30
  go_wp2_with fail
  refine gen_calls (fun W => W.heap.size = w.heap.size + 2 ∧ Below w.heap.size w W ∧ W.cell? ⟨w.heap.size + 1, 0, none⟩ = some (.int .i64 0) ∧ W.frozen? ⟨w.heap.size + 1, 0, none⟩ = false) ⟨by simp, bl_alloc (bl_alloc (Below.refl _ _) _) _, by simp [go_sem], by simp [go_sem]⟩ ?_
  rintro W ⟨z0, B0, c0, f0⟩
  refine (HC.out W).mono ?_
  rintro e w1 ⟨rfl, hb⟩
  have c1 := keepc hb c0
  have f1 := keepf hb (by omega) f0
  have B1 := bl_step B0 hb
  clear c0 f0 hb B0
  go_wp2_with fail
  exact bodyPost_ret (v := .int .i64 q) (by simp [results, Try.results30, go_sem, c1]) rfl ⟨rfl, bl_set B1 (by omega) _⟩
/-- A shape that may be, in whole numbers. -/
theorem chk_nat {h v c : Int} (k : Sg.chk h v c = 0) : ∃ H V C : Nat, h = H ∧ v = V ∧ c = C ∧ (1 ≤ H ∧ H ≤ 4096) ∧ (1 ≤ V ∧ V ≤ 4096) ∧ (1 ≤ C ∧ C ≤ 4096) ∧ H * V * C ≤ 16777216 := by
  obtain ⟨hs, hb⟩ := Sg.chk_zero k
  obtain ⟨a1, a2, a3⟩ := hs
  obtain ⟨H, rfl⟩ := Int.eq_ofNat_of_zero_le (show 0 ≤ h by omega)
  obtain ⟨V, rfl⟩ := Int.eq_ofNat_of_zero_le (show 0 ≤ v by omega)
  obtain ⟨C, rfl⟩ := Int.eq_ofNat_of_zero_le (show 0 ≤ c by omega)
  have e : ((H * V * C : Nat) : Int) = (H : Int) * V * C := by push_cast; rfl
  exact ⟨H, V, C, rfl, rfl, rfl, by omega, by omega, by omega, Int.ofNat_le.1 (by rw [e]; exact hb)⟩
theorem woN_nat {H V C : Nat} (k : Sg.chk H V C = 0) : Sg.woN H V C = (H * V * nw C : Nat) := by
  unfold Sg.woN nw; rw [if_pos k]; push_cast; rfl
theorem elN_nat {H V C : Nat} (k : Sg.chk H V C = 0) : Sg.elN H V C = (H * V * C : Nat) := by
  unfold Sg.elN; rw [if_pos k]; push_cast; rfl
theorem wo_bd {H V C : Nat} (a : H ≤ 4096) (b : V ≤ 4096) (c : C ≤ 4096) : H * V ≤ 16777216 ∧ H * V * nw C ≤ 1073741824 := by
  have h1 : H * V ≤ 4096 * 4096 := Nat.mul_le_mul a b
  have h2 : nw C ≤ 64 := by unfold nw; omega
  have h3 : H * V * nw C ≤ 4096 * 4096 * 64 := Nat.mul_le_mul h1 h2
  exact ⟨h1, h3⟩
set_option maxHeartbeats 800000 in
set_option maxRecDepth 100000 in
theorem ccheck_len (H V C : Nat) (ao : Option Addr) (m cap : Nat) (w : World) (k : Sg.chk H V C = 0) (ne : m ≠ H * V * nw C) :
    Calls Try.prog 30 #[cuv H V C ao m cap] w fun e w' => e = .returned (.int .i64 20) ∧ Below w.heap.size w w' := by
  have HC := hid1 (Sg.words_any H V C)
  rw [k, woN_nat k] at HC
  generalize H * V * nw C = u at *
  have ne' : ¬ (m : Int) = (u : Nat) := by omega
  go_enter Try.func30, Try.ntmps30
  go_wp2_with fail
  refine gen_calls (fun W => W.heap.size = w.heap.size + 2 ∧ Below w.heap.size w W ∧ W.rowIs w.heap.size 31 4 (cf H V C ao m cap) ∧ W.cell? ⟨w.heap.size + 1, 0, none⟩ = some (.int .i64 0) ∧ W.frozen? ⟨w.heap.size + 1, 0, none⟩ = false) ⟨by simp, bl_alloc (bl_alloc (Below.refl _ _) _) _, (cu_new w _ _ _ _ _ _ _).alloc _, by simp [go_sem], by simp [go_sem]⟩ ?_
  rintro W ⟨z0, B0, r0, c0, f0⟩
  refine (HC.out W).mono ?_
  rintro e w1 ⟨rfl, hb⟩
  have c1 := keepc hb c0
  have c2 := cf3 (keepr hb r0)
  have f1 := keepf hb (by omega) f0
  have B1 := bl_step B0 hb
  clear c0 f0 hb B0 r0
  go_wp2_with fail
  exact bodyPost_ret (v := .int .i64 20) (by simp [results, Try.results30, go_sem, c1]) rfl ⟨rfl, bl_set B1 (by omega) _⟩
/-- A place's last word has nothing behind the channels just if the place has not. -/
theorem last_ok {N c i : Nat} (hc : 0 < c) : wd N (i * nw c + (nw c - 1)) &&& (18446744073709551615 - tl c) = 0 ↔ pl N (nw c) i < 2 ^ c := by
  have hd : nw c - 1 < nw c := by unfold nw; omega
  rw [← pl_wd hd]
  exact behind_none hc (pl_lt N (nw c) i)
set_option maxHeartbeats 2000000 in
set_option maxRecDepth 100000 in
theorem ccheck_good (H V C g o m cap N : Nat) (w : World) (hH : 1 ≤ H ∧ H ≤ 4096) (hV : 1 ≤ V ∧ V ≤ 4096) (hC : 1 ≤ C ∧ C ≤ 4096) (k : Sg.chk H V C = 0) (hm : m = H * V * nw C) (hmc : m ≤ cap) (hcap : cap ≤ 9223372036854775807)
    (rd : Wr w (some ⟨g, o, none⟩) m N) :
    Calls Try.prog 30 #[cuv H V C (some ⟨g, o, none⟩) m cap] w fun e w' => e = .returned (.int .i64 (if Pok (H * V) C N then 0 else 20)) ∧ Below w.heap.size w w' := by
  have HC := hid1 (Sg.words_any H V C)
  rw [k, woN_nat k, ← hm] at HC
  have HS := hid1 (fun n Bc w hn r => places_stops n Bc H V C g o m cap hn hH.2 hV.2 hC.1 hC.2 (by omega) hmc hcap w r)
  have HT := hid1 (tail_pos C (by omega) (by omega))
  have hx : bits .xor .u64 IntKind.u64.max (tl C : Int) = ((18446744073709551615 - tl C : Nat) : Int) := by
    have := compl_u64 (tl C) (tl_lt C)
    rwa [if_neg (by decide)] at this
  have HL := hid1 (fun i => last_ok (N := N) (i := i) hC.1)
  obtain ⟨bh, hbh⟩ : ∃ bh, 18446744073709551615 - tl C = bh := ⟨_, rfl⟩
  have hb64 : bh < 18446744073709551616 := by omega
  rw [hbh] at hx HL
  clear hbh
  have hP : H * V ≤ 16777216 := (wo_bd hH.2 hV.2 hC.2).1
  have HI : ∀ i, i < H * V → i * nw C + nw C ≤ m := fun i hi => by rw [hm, ← Nat.succ_mul]; exact Nat.mul_le_mul_right _ hi
  have HM := hid1 hm
  clear hm
  obtain ⟨rr, hrr⟩ : ∃ rr : Int, (if Pok (H * V) C N then (0 : Int) else 20) = rr := ⟨_, rfl⟩
  rw [hrr]
  have HRR := hid1 hrr
  clear hrr
  have hd64 : nw C ≤ 64 := by unfold nw; omega
  have hd0 : 0 < nw C := by unfold nw; omega
  obtain ⟨ok, hok⟩ : ∃ ok : Nat → Prop, ok = fun i => pl N (nw C) i < 2 ^ C := ⟨_, rfl⟩
  have HO := hid1 hok
  have HE := hid1 (fun i => congrFun hok i)
  replace HL := hid1 (fun i => (HL.out i).trans (iff_of_eq (congrFun hok i).symm))
  clear hok
  obtain ⟨d, hd⟩ : ∃ d, nw C = d := ⟨_, rfl⟩
  rw [hd] at HS HI hd64 hd0 HL
  have HD := hid1 hd
  clear hd
  obtain ⟨q, hq⟩ : ∃ q, d - 1 = q := ⟨_, rfl⟩
  rw [hq] at HL
  have iq : IntKind.i64.wrap ((d : Int) - 1) = (q : Int) := by rw [IntKind.wrap_i64]; omega
  have iq0 : (0 : Int) ≤ (q : Int) := by omega
  have iq1 : (q : Int) < (d : Int) := by omega
  have hqd : q < d := by omega
  clear hq
  have RD := hid1 rd
  clear rd
  refine (callsIn_wide (n := 3)).1 (callsIn_of_wp_marks Try.func30 rfl trivial ?_ rfl)
  simp only [Try.ntmps30, List.size_toArray, List.length_cons, List.length_nil, Nat.reduceAdd, Nat.reduceSub, Array.replicate_succ, Array.replicate_zero, List.push_toArray, List.append_toArray, List.nil_append, List.cons_append]
  gi_wp2
  refine ⟨trivial, callsIn_wide.2 ?_⟩
  refine gen_calls (fun W => W.heap.size = w.heap.size + 2 ∧ Below w.heap.size w W ∧ W.rowIs w.heap.size 31 4 (cf H V C (some ⟨g, o, none⟩) m cap) ∧ W.rowIs (w.heap.size + 1) 33 1 (fun _ => .int .i64 0)) ⟨by simp, bl_alloc (bl_alloc (Below.refl _ _) _) _, (cu_new w _ _ _ _ _ _ _).alloc _, by have := one_new (w.alloc (.cells #[.int .i64 H, .int .i64 V, .int .i64 C, .slice (some ⟨g, o, none⟩) m cap] 31)) (.int .i64 0) 33; rwa [World.size_alloc] at this⟩ ?_
  rintro W ⟨z0, B0, r0, r1⟩
  refine (HC.out W).mono ?_
  rintro e w1 ⟨rfl, hb⟩
  replace r0 := keepr hb r0
  replace r1 := keepr hb r1
  have B1 := bl_step B0 hb
  have z1 := hb.size
  clear hb B0
  have d0 := cf0 r0
  have d1 := cf1 r0
  have d2 := cf2 r0
  have d3 := cf3 r0
  have l0 : w.heap.size < w1.heap.size := by omega
  have l1 : w.heap.size + 1 < w1.heap.size := by omega
  gi_wp2
  refine ⟨trivial, callsIn_wide.2 ((HT.out _).mono ?_)⟩
  rintro e w2 ⟨rfl, rfl⟩
  gi_wp2
  refine ⟨trivial, callsIn_wide.2 ?_⟩
  obtain ⟨W3, eW3⟩ : ∃ W3, w2.alloc (.cells #[.int .u64 bh] 41) = W3 := ⟨_, rfl⟩
  rw [eW3]
  have R0 : W3.rowIs w.heap.size 31 4 (cf H V C (some ⟨g, o, none⟩) m cap) := by rw [← eW3]; exact r0.alloc _
  have R1 : W3.rowIs (w.heap.size + 1) 33 1 (fun _ => .int .i64 0) := by rw [← eW3]; exact r1.alloc _
  have R2 : W3.rowIs w2.heap.size 41 1 (fun _ => .int .u64 bh) := by rw [← eW3]; exact one_new _ _ _
  have B3 : Below w.heap.size w W3 := by rw [← eW3]; exact bl_alloc B1 _
  have z3 : W3.heap.size = w2.heap.size + 1 := by rw [← eW3]; simp
  clear eW3 B1 r0 r1 d0 d1 d2 d3
  obtain ⟨b2, eb2⟩ : ∃ b2, w2.heap.size = b2 := ⟨_, rfl⟩
  rw [eb2] at R2 z3 z1 l0 l1 ⊢
  clear eb2
  refine (places_any _ _ _ _ _ _ _).mono ?_
  rintro e w4 ⟨rfl, rfl⟩
  gi_wp2
  have R4 := cu_new W3 H V C (some ⟨g, o, none⟩) m cap 31
  obtain ⟨W4, eW4⟩ : ∃ W4, W3.alloc (.cells #[.int .i64 H, .int .i64 V, .int .i64 C, .slice (some ⟨g, o, none⟩) m cap] 31) = W4 := ⟨_, rfl⟩
  rw [eW4, z3] at R4
  rw [eW4]
  have z4 : W4.heap.size = b2 + 2 := by rw [← eW4]; simp; omega
  replace R1 : W4.rowIs (w.heap.size + 1) 33 1 (fun _ => .int .i64 0) := by rw [← eW4]; exact R1.alloc _
  replace R2 : W4.rowIs b2 41 1 (fun _ => .int .u64 bh) := by rw [← eW4]; exact R2.alloc _
  have B4 : Below w.heap.size w W4 := by rw [← eW4]; exact bl_alloc B3 _
  clear eW4 B3 R0 z3 W3
  refine wpIn_rangeFunc_ownG rfl (by decide) (gf := 56) (lb := #[.pointer (some ⟨b2 + 1, 0, none⟩)]) rfl trivial (enters_of Try.func56 (by kernel_rfl) rfl)
    (HS.out 2 (b2 + 1) W4 (by decide) R4) (fun h k => k.trans h) (fun W l o o' hl _ _ _ => World.putObj_heap_other (by omega)) (Below.refl _ _) (fun _ => rfl)
    (fun pre W => (∀ x ∈ pre, ok x.1) ∧ W.rowIs (w.heap.size + 1) 33 1 (fun _ => .int .i64 0) ∧ W.rowIs b2 41 1 (fun _ => .int .u64 bh) ∧ Below w.heap.size w W)
    (fun c pre W => (c = .ret ∧ ∃ x ∈ pre, ¬ ok x.1) ∧ W.rowIs (w.heap.size + 1) 33 1 (fun _ => .int .i64 20) ∧ Below w.heap.size w W)
    (OwnFrom.and (fun _ _ _ _ hs _ _ => hs) (OwnFrom.and (Own.from (krow_own _ _ _ _) _) (OwnFrom.and (Own.from (krow_own _ _ _ _) _) (ownFrom_below (Nat.le_refl _) (by omega)))))
    (fun c => OwnFrom.and (fun _ _ _ _ hs _ _ => hs) (OwnFrom.and (Own.from (krow_own _ _ _ _) _) (ownFrom_below (Nat.le_refl _) (by omega))))
    ⟨by simp, R1, R2, B4⟩ ?a1 ?assign ?body ?done ?stop
  case assign =>
    intro l x W K hK
    gi_wp2
    exact hK
  case body =>
    clear R1 R2 R4 B4
    rintro l pre x W ⟨hp, R1, R2, B4⟩ _
    have hxi := HI x.1 x.2
    have HLx := hid1 (HL.out x.1)
    have hfo := follows
    have hcell : W.cell? ⟨g, o + x.1 * d + q, none⟩ = some (.int .u64 (wd N (x.1 * d + q))) := by
      obtain ⟨g', o', e, c⟩ := (RD.out.below B4).2 (x.1 * d + q) (by omega)
      cases e
      rw [Nat.add_assoc]; exact c
    have HA := and_u64 (wd N (x.1 * d + q)) bh (wd_lt _ _) hb64
    have c5 := one_cell R2
    have c2 := one_cell R1
    have f2 := one_frozen R1
    generalize wd N (x.1 * d + q) = X at *
    generalize X &&& bh = y at *
    by_cases hy : y = 0
    · subst hy
      gi_wp2
      refine still_round 8 (by kernel_rfl) (by kernel_rfl) (noOut_then (noOut_block noOut)) ?_
      simp only [List.take_succ_cons, List.take_zero, List.drop_succ_cons, List.drop_zero]
      repeat still_step
      refine wpStill_nil ?_
      go_wp2_with fail
      gi_wp2
      exact ⟨(KeepsOthers.drew W).from _, rfl, fun y hy => (List.mem_append.1 hy).elim (hp y) (fun e => by rw [List.mem_singleton] at e; subst e; exact HLx.out.1 trivial), R1, R2, B4.drew⟩
    · have hy' : ¬ (y : Int) = 0 := by omega
      gi_wp2
      refine still_round 8 (by kernel_rfl) (by kernel_rfl) (noOut_then (noOut_block noOut)) ?_
      simp only [List.take_succ_cons, List.take_zero, List.drop_succ_cons, List.drop_zero]
      repeat still_step
      refine wpStill_nil ?_
      go_wp2_with fail
      gi_wp2
      exact ⟨((KeepsOthers.drew W).trans (KeepsOthers.setCell _ _ _)).from _, ⟨rfl, x, by simp, fun e => hy (HLx.out.2 e)⟩, one_set (row_drewN R1 1) _, bl_set B4.drew (by omega) _⟩
  case done =>
    clear R1 R2 R4 B4
    rintro D ys W hD rfl ⟨hall, R1, R2, B4⟩ hK
    have HA : rr = 0 := by
      rw [← HRR.out, if_pos]
      intro i hi
      rw [← HE.out]
      exact hall ⟨i, hi⟩ (mem_upt i hi)
    subst HA
    have c2 := one_cell R1
    have f2 := one_frozen R1
    clear hall HS HI HL HT HC R2 HRR HE HO
    gi_wp2
    have hK' := (KeepsOthers.setCell W ⟨w.heap.size + 1, 0, none⟩ (.int .i64 0)).same D _ hK rfl
    have c5 := cell_kept (one_cell (one_set R1 (.int .i64 0))) (grownBy_putObj' _ D (.deferred none)) (fun r e => by cases e; exact ⟨_, hK', rfl⟩)
    refine ⟨by simp, .inl ⟨_, _, rfl, run_takeDeferred hK', ?_⟩⟩
    refine ⟨.int .i64 0, ?_, rfl, (bl_set B4 (by omega) _).trans (belowK_b (w := w) (Nat.le_refl _) _ D _ _ (by omega) hK' rfl rfl)⟩
    simp [results, Try.f30, go_sem, c5]
  case stop =>
    clear R1 R2 R4 B4
    rintro D c pre W hD ⟨k, hk, rfl⟩ ⟨⟨rfl, x, hx, hbad⟩, R1, B4⟩ hK
    have HA : rr = 20 := by
      rw [← HRR.out, if_neg]
      intro h
      rw [HE.out] at hbad
      exact hbad (h x.1 x.2)
    subst HA
    have c2 := one_cell R1
    clear HS HI HL HT HC HRR HE HO hbad
    gi_wp2
    have c5 := cell_kept (one_cell R1) (grownBy_putObj' _ D (.deferred none)) (fun r e => by cases e; exact ⟨_, hK, rfl⟩)
    refine ⟨by simp, .inl ⟨_, _, rfl, run_takeDeferred hK, ?_⟩⟩
    refine ⟨.int .i64 20, ?_, rfl, B4.trans (belowK_b (w := w) (Nat.le_refl _) _ D _ _ (by omega) hK rfl rfl)⟩
    simp [results, Try.f30, go_sem, c5]
/-- Check, of every cube. -/
theorem ccheck_any (h v c : Int) (ao : Option Addr) (m cap N : Nat) (w : World) (hmc : m ≤ cap) (hcap : cap ≤ 9223372036854775807) (rd : Wr w ao m N) :
    Calls Try.prog 30 #[cuv h v c ao m cap] w fun e w' => e = .returned (.int .i64 (cuk h v c m N)) ∧ Below w.heap.size w w' := by
  by_cases k : Sg.chk h v c = 0
  · obtain ⟨H, V, C, rfl, rfl, rfl, hH, hV, hC, hb⟩ := chk_nat k
    unfold cuk
    rw [if_pos k, Int.toNat_natCast, Int.toNat_natCast, Int.toNat_natCast]
    by_cases e : m = H * V * nw C
    · rw [if_pos e]
      have hpos : 0 < m := by
        rw [e]
        exact Nat.mul_pos (Nat.mul_pos (by omega) (by omega)) (by unfold nw; omega)
      obtain ⟨g, o, rfl, _⟩ := rd.2 0 hpos
      exact ccheck_good H V C g o m cap N w hH hV hC k e hmc hcap rd
    · rw [if_neg e]
      exact ccheck_len H V C ao m cap w k e
  · unfold cuk
    rw [if_neg k]
    exact ccheck_shape h v c ao m cap w k
/-- A cube that may be. -/
theorem cuk_zero {h v c : Int} {m N : Nat} (k : cuk h v c m N = 0) : ∃ H V C : Nat, h = H ∧ v = V ∧ c = C ∧ Sg.chk H V C = 0 ∧ (1 ≤ H ∧ H ≤ 4096) ∧ (1 ≤ V ∧ V ≤ 4096) ∧ (1 ≤ C ∧ C ≤ 4096) ∧ H * V * C ≤ 16777216 ∧ m = H * V * nw C ∧ Pok (H * V) C N := by
  unfold cuk at k
  by_cases k0 : Sg.chk h v c = 0
  · rw [if_pos k0] at k
    obtain ⟨H, V, C, rfl, rfl, rfl, hH, hV, hC, hb⟩ := chk_nat k0
    rw [Int.toNat_natCast, Int.toNat_natCast, Int.toNat_natCast] at k
    by_cases e : m = H * V * nw C
    · rw [if_pos e] at k
      by_cases p : Pok (H * V) C N
      · exact ⟨H, V, C, rfl, rfl, rfl, k0, hH, hV, hC, hb, e, p⟩
      · rw [if_neg p] at k; omega
    · rw [if_neg e] at k; omega
  · rw [if_neg k0] at k; exact absurd k k0
end Go.Proofs.Ytohkiknhjcibgaa
