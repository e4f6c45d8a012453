import Derived.Test.YtcjglbejmlebhaaDoorW10
namespace Go.Proofs.YtcjglbejmlebhaaDoor
open Go.RowKit Go.Shelf
attribute [local go_sem ↓] Go.wp_at_zero Go.wp_at_succ

def strSize (v : Value) : Nat := match v with
  | .string b => b.size
  | _ => 0
/-- What holds of the world at the head of sizeOfDigits' loop, v being read so far. -/
structure SzAt (w W : World) (v : Int) : Prop where
  c0 : W.cell? ⟨w.heap.size, 0, none⟩ = some (.int .u64 0)
  c1 : W.cell? ⟨w.heap.size, 1, none⟩ = some (.int .u64 0)
  n0 : W.cell? ⟨w.heap.size + 1, 0, none⟩ = some (.int .u64 (hiOf v))
  n1 : W.cell? ⟨w.heap.size + 1, 1, none⟩ = some (.int .u64 (loOf v))
  f0 : W.frozen? ⟨w.heap.size, 0, none⟩ = false
  f1 : W.frozen? ⟨w.heap.size, 1, none⟩ = false
  g0 : W.frozen? ⟨w.heap.size + 1, 0, none⟩ = false
  g1 : W.frozen? ⟨w.heap.size + 1, 1, none⟩ = false
  bel : Below w.heap.size w W
  siz : w.heap.size + 1 < W.heap.size

theorem SzAt.on {w W W' : World} {v : Int} (h : SzAt w W v) (hb : Below W.heap.size W W') : SzAt w W' v :=
  ⟨keepc hb h.c0, keepc hb h.c1, keepc hb h.n0, keepc hb h.n1, keepf hb (by have := h.siz; omega) h.f0, keepf hb (by have := h.siz; omega) h.f1, keepf hb h.siz h.g0, keepf hb h.siz h.g1, bl_step h.bel hb, Nat.lt_of_lt_of_le h.siz hb.size⟩
theorem SzAt.put {w W : World} {v : Int} (h : SzAt w W v) (u : Int) : SzAt w ((W.setCell ⟨w.heap.size + 1, 0, none⟩ (.int .u64 (hiOf u))).setCell ⟨w.heap.size + 1, 1, none⟩ (.int .u64 (loOf u))) u := by
  obtain ⟨c0, c1, n0, n1, f0, f1, g0, g1, bel, siz⟩ := h
  refine ⟨?_, ?_, ?_, ?_, ?_, ?_, ?_, ?_, bl_set (bl_set bel (by omega) _) (by omega) _, by simpa using siz⟩ <;> simp [go_sem, *]
theorem extract_take (R : List UInt8) (p : Nat) : (⟨R.toArray⟩ : ByteArray).extract 0 p = ⟨(R.take p).toArray⟩ := by
  apply ByteArray.ext; simp [List.extract]
theorem extract_drop (R : List UInt8) (p : Nat) : (⟨R.toArray⟩ : ByteArray).extract p R.length = ⟨(R.drop p).toArray⟩ := by
  apply ByteArray.ext; simp
  exact List.take_of_length_le (by simp)
theorem piece_of (R : List UInt8) (h : ¬ R = []) : ∃ (p : Nat) (P R2 : List UInt8), min (R.length : Int) 19 = (p : Int) ∧ min p R.length = p ∧ (⟨R.toArray⟩ : ByteArray).extract 0 p = ⟨P.toArray⟩ ∧ (⟨R.toArray⟩ : ByteArray).extract p R.length = ⟨R2.toArray⟩ ∧ P.length = p ∧ 1 ≤ p ∧ p ≤ 19 ∧ (P = R.take p ∧ R2 = R.drop p) := by
  have hl : R.length ≠ 0 := by simpa using h
  refine ⟨min R.length 19, R.take (min R.length 19), R.drop (min R.length 19), by omega, by omega, extract_take _ _, extract_drop _ _, by simp, by omega, by omega, rfl, rfl⟩
theorem ten_u64 {p : Nat} (h : p ≤ 19) : U64 ((10 ^ p : Nat) : Int) := by
  have h1 : 10 ^ p ≤ 10 ^ 19 := Nat.pow_le_pow_right (by decide) h
  have h2 : (10 : Nat) ^ 19 < 18446744073709551616 := by decide
  generalize 10 ^ p = a at *
  generalize (10 : Nat) ^ 19 = b at *
  exact ⟨by omega, by omega⟩

theorem word_u64 (P : List UInt8) (h : P.length ≤ 19) (hd : ∀ c ∈ P, isDig c = true) : U64 (valD 0 P) := by
  obtain ⟨a, b⟩ := valD_bd P hd
  exact ⟨a, Int.lt_trans b (ten_u64 h).2⟩
theorem wordL (P : List UInt8) (x : Int) (h : P.length ≤ 19) (hd : ∀ c ∈ P, isDig c = true) (hx : valD 0 P = x) (w : World) :
    Calls Tryd.prog 73 #[.string ⟨P.toArray⟩] w fun e w' => e = .returned (.int .u64 x) ∧ w' = w := by
  refine (word_any ⟨P.toArray⟩ (by show P.toArray.size ≤ 19; simpa using h) (by simpa using hd) w).mono ?_
  rintro e w' ⟨rfl, rfl⟩
  exact ⟨by rw [← hx], rfl⟩
theorem drop_more {l R R2 : List UInt8} {k p : Nat} (h : l.drop k = R) (h2 : R2 = R.drop p) : R2 = l.drop (k + p) := by rw [h2, ← h, List.drop_drop]
theorem take_more {l R P : List UInt8} {k p : Nat} (h : l.drop k = R) (h2 : P = R.take p) : l.take (k + p) = l.take k ++ P := by
  rw [h2, ← h, List.take_add]
theorem no_more {l R P R2 : List UInt8} {k p : Nat} {v T x : Int} (hd : ∀ c ∈ l, isDig c = true) (hv : valD 0 (l.take k) = v) (hR : l.drop k = R) (hC : P = R.take p ∧ R2 = R.drop p) (hT : ((10 ^ p : Nat) : Int) = T) (hx : valD 0 P = x) (hpl : P.length = p) (hS : Siz (valD 0 l)) : Siz (v * T) ∧ Siz (v * T + x) := by
  have e : l = l.take (k + p) ++ R2 := by rw [drop_more hR hC.2, List.take_append_drop]
  have hd2 : ∀ c ∈ R2, isDig c = true := fun c hc => hd c (by rw [e]; exact List.mem_append_right _ hc)
  have hdt : ∀ c ∈ l.take k, isDig c = true := fun c hc => hd c (List.mem_of_mem_take hc)
  have hdp : ∀ c ∈ P, isDig c = true := fun c hc => hd c (by rw [hC.1, ← hR] at hc; exact List.mem_of_mem_drop (List.mem_of_mem_take hc))
  have e1 : valD 0 (l.take (k + p)) = v * T + x := by rw [take_more hR hC.1, valD_append, hv, valD_split, hpl, hT, hx]
  have e2 : valD 0 l = valD (v * T + x) R2 := by rw [← e1, ← valD_append, ← e]
  have h1 := valD_mono (n := v * T + x) R2 hd2
  have b1 := (valD_bd _ hdt).1
  have b2 := (valD_bd P hdp).1
  rw [hv] at b1
  rw [hx] at b2
  have p1 : 1 ≤ ((10 ^ R2.length : Nat) : Int) := by have : 0 < 10 ^ R2.length := Nat.pow_pos (by decide); omega
  have p2 : 0 ≤ v * T := Int.mul_nonneg b1 (by rw [← hT]; exact Int.natCast_nonneg _)
  have h2 : (v * T + x) * 1 ≤ (v * T + x) * ((10 ^ R2.length : Nat) : Int) := Int.mul_le_mul_of_nonneg_left p1 (by omega)
  rw [e2] at hS
  unfold Siz at *
  omega
theorem all_read {l : List UInt8} {k : Nat} (h : l.drop k = []) : l.take k = l := by
  have e := List.take_append_drop k l
  rw [h, List.append_nil] at e
  exact e
theorem gen_world {P : Program} {c : Code} {Q : Exit → Act → World → Prop} {a : Act} {W : World} (p : World → Prop) (hp : p W) (h : ∀ W', p W' → c.wp P Q a W') : c.wp P Q a W := h W hp

set_option maxHeartbeats 1000000 in
set_option maxRecDepth 100000 in
theorem sizeDigits (s : ByteArray) (hd : ∀ c ∈ s.data.toList, isDig c = true) (w : World) (L : Laid w) :
    Calls Tryd.prog 44 #[.string s] w fun e w' => ((Siz (valD 0 s.data.toList) ∧ e = .returned (.tuple #[sv (valD 0 s.data.toList), .bool true])) ∨ (¬ Siz (valD 0 s.data.toList) ∧ ∃ v, e = .returned (.tuple #[sv v, .bool false]))) ∧ Below w.heap.size w w' := by
  have HD := hid1 hd
  have HL := hid1 L
  clear hd L
  go_enter Tryd.func44, Tryd.ntmps44
  go_wp2_with fail
  go_loopw [0] (fun d W => ∃ k : Nat, k ≤ s.size ∧ d = .string ⟨(s.data.toList.drop k).toArray⟩ ∧ Siz (valD 0 (s.data.toList.take k)) ∧ SzAt w W (valD 0 (s.data.toList.take k))) (fun d _ => strSize d)
  case atStart =>
    refine ⟨0, Nat.zero_le _, ?_, siz0, ?_⟩
    · rw [List.drop_zero]
    · refine ⟨?_, ?_, ?_, ?_, ?_, ?_, ?_, ?_, bl_alloc (bl_alloc (Below.refl _ _) _) _, by simp⟩ <;> simp [go_sem, valD, hi0, lo0]
  case round =>
    obtain ⟨k, hk, rfl, hsz, hW⟩ := hrel
    obtain ⟨R, hR⟩ : ∃ R, s.data.toList.drop k = R := ⟨_, rfl⟩
    obtain ⟨v, hv⟩ : ∃ v, valD 0 (s.data.toList.take k) = v := ⟨_, rfl⟩
    rw [hv] at hsz hW
    rw [hR]
    have HW := hid1 hW
    obtain ⟨c0, c1, n0, n1, f0, f1, g0, g1, bel, siz⟩ := hW
    have HR := hid1 hR
    have HV := hid1 hv
    clear hR hv
    by_cases hnil : R = []
    · have hfin : valD 0 s.data.toList = v := by rw [← HV.out, all_read (HR.out.trans hnil)]
      have hS : Siz (valD 0 s.data.toList) := by rw [hfin]; exact hsz
      have HF := hid1 hfin
      have HS := hid1 hS
      clear hfin hS
      go_wp2_with fail
      simp [bodyPost, results, Tryd.results44, go_sem, c0, c1]
      refine ⟨⟨HS.out, by rw [HF.out], by rw [HF.out]⟩, ?_⟩
      repeat (first | exact Below.refl _ _ | refine bl_alloc ?_ _ | refine Below.drew ?_ | refine bl_drewN ?_ _ | refine bl_set ?_ (by omega) _ | refine bl_step ?_ (by assumption))
    · have e1 : R.isEmpty = false := by simpa using hnil
      obtain ⟨p, P, R2, m1, m2, x1, x2, hpl, hp1, hp2, hcat⟩ := piece_of R hnil
      have p1 : (1 : Int) ≤ (p : Int) := by omega
      have p2 : (p : Int) < 20 := by omega
      have LW : Laid wr := HL.out.on bel
      obtain ⟨T, hT⟩ : ∃ T : Int, ((10 ^ p : Nat) : Int) = T := ⟨_, rfl⟩
      have t0 := LW.ten p (by omega)
      rw [hT] at t0
      have hTu : U64 T := by rw [← hT]; exact ten_u64 (by omega)
      have HT := hid1 hT
      have HC := hid1 hcat
      have HL2 : Hid (k + p ≤ s.size ∧ R2.length + p = R.length ∧ 1 ≤ p) := by
        have e1 : R.length = s.size - k := by rw [← HR.out, size_len]; simp
        have e2 : R2.length = R.length - p := by rw [hcat.2]; simp
        show k + p ≤ s.size ∧ R2.length + p = R.length ∧ 1 ≤ p
        omega
      have q1 : ¬ wr.heap.size = w.heap.size + 1 := by omega
      have q2 : ¬ w.heap.size + 1 = wr.heap.size := by omega
      have q3 : ¬ wr.heap.size = 0 := by omega
      have q4 : ¬ 0 = wr.heap.size := by omega
      have q5 : ¬ wr.heap.size = w.heap.size := by omega
      have q7 : 0 < wr.heap.size := by omega
      have q8 : w.heap.size < wr.heap.size := by omega
      have q6 : ¬ w.heap.size = wr.heap.size := by omega
      clear hT hcat LW hp1 hp2
      obtain ⟨x, hx⟩ : ∃ x, valD 0 P = x := ⟨_, rfl⟩
      have HX := hid1 hx
      have HPd : Hid (∀ c ∈ P, isDig c = true) := fun c hc => HD.out c (by rw [HC.out.1, ← HR.out] at hc; exact List.mem_of_mem_drop (List.mem_of_mem_take hc))
      have hP19 : P.length ≤ 19 := by omega
      have hxu : U64 x := by rw [← hx]; exact word_u64 P hP19 HPd.out
      clear hx
      by_cases ht : Siz (v * T)
      · go_wp2_with fail
        go_region_held3 (fun W => W.cell? ⟨w.heap.size + 1, 0, none⟩ = some (.int .u64 (hiOf v)) ∧ W.cell? ⟨w.heap.size + 1, 1, none⟩ = some (.int .u64 (loOf v)) ∧ W.cell? ⟨0, p, none⟩ = some (.int .u64 T)) (((try dsimp only); refine ⟨?_, ?_, ?_⟩ <;> first | (simp [go_sem, *]; done) | (simp [go_sem, *, World.cell?_setCell_other]; done) | (refine keepc (by assumption) ?_; simp [go_sem, *]; done) | (refine keepc (bl_alloc (Below.refl _ _) _) ?_; simp [go_sem, *]; done) | (refine keepc (bl_alloc (Below.refl _ _) _) ?_; refine keepc (by assumption) ?_; simp [go_sem, *]; done)))
          (first | (go_at_call 53; refine (times_ok v T hsz hTu ht _).mono ?_; rintro e w1 ⟨rfl, hb1⟩; obtain ⟨hc, hf⟩ := bcell hb1))
        all_goals go_wp2_with fail
        case _ => 
          refine gen_world (fun W' => Below wr.heap.size wr W' ∧ W'.cell? ⟨w1.heap.size, 0, none⟩ = some (.int .u64 (hiOf (v * T))) ∧ W'.cell? ⟨w1.heap.size, 1, none⟩ = some (.int .u64 (loOf (v * T)))) ⟨by repeat (first | exact Below.refl _ _ | refine bl_alloc ?_ _ | refine Below.drew ?_ | refine bl_drewN ?_ _ | refine bl_set ?_ (by omega) _ | refine bl_step ?_ (by assumption)), by simp [go_sem], by simp [go_sem]⟩ ?_
          rintro W2 ⟨hb2, m0, m1⟩
          have z : w.heap.size + 1 < w1.heap.size := by have := hb1.size; simp at this; omega
          have hW2 := HW.out.on hb2
          have HW2 := hid1 hW2
          obtain ⟨cc0, cc1, nn0, nn1, ff0, ff1, gg0, gg1, bel2, siz2⟩ := hW2
          have q9 : ¬ w1.heap.size = w.heap.size + 1 := by omega
          have q10 : ¬ w.heap.size + 1 = w1.heap.size := by omega
          clear hb1 hc hf t0 c0 c1 n0 n1 f0 f1 g0 g1 q1 q2 q3 q4 q5 q6 q7 q8
          by_cases hp : Siz (v * T + x)
          · go_region_held3 (fun W => W.cell? ⟨w1.heap.size, 0, none⟩ = some (.int .u64 (hiOf (v * T))) ∧ W.cell? ⟨w1.heap.size, 1, none⟩ = some (.int .u64 (loOf (v * T)))) (((try dsimp only); refine ⟨?_, ?_⟩ <;> first | (simp [go_sem, *]; done) | (refine keepc (by assumption) ?_; simp [go_sem, *]; done)))
              (first
                | (go_at_call 73; refine (wordL P x hP19 HPd.out HX.out _).mono ?_; rintro e w2 ⟨rfl, rfl⟩)
                | (go_at_call 61; refine (plus_ok (v * T) x ht hxu hp _).mono ?_; rintro e w3 ⟨rfl, hb3⟩; have hb3' : Below W2.heap.size W2 w3 := bl_step (Below.drew (Below.refl _ _)) hb3; have a0 := keepc hb3' nn0; have a1 := keepc hb3' nn1; have b0 := keepf hb3' siz2 gg0; have b1 := keepf hb3' siz2 gg1; have d0 := keepc hb3' m0; have d1 := keepc hb3' m1))
            go_wp2_with fail
            refine ⟨⟨k + p, by have := hk; have e := HL2.out; omega, by rw [drop_more HR.out HC.out.2], by rw [take_more HR.out HC.out.1, valD_append, HV.out, valD_split, hpl, HT.out, HX.out]; exact hp, ?_⟩, ?_⟩
            · rw [take_more HR.out HC.out.1, valD_append, HV.out, valD_split, hpl, HT.out, HX.out]
              exact (HW2.out.on hb3').put _
            · have e := HL2.out
              show R2.toArray.size < R.toArray.size
              simp; omega
          · have HN : Hid (¬ Siz (valD 0 s.data.toList)) := fun hS => hp (no_more HD.out HV.out HR.out HC.out HT.out HX.out hpl hS).2
            go_region_held3 (fun W => W.cell? ⟨w1.heap.size, 0, none⟩ = some (.int .u64 (hiOf (v * T))) ∧ W.cell? ⟨w1.heap.size, 1, none⟩ = some (.int .u64 (loOf (v * T)))) (((try dsimp only); refine ⟨?_, ?_⟩ <;> first | (simp [go_sem, *]; done) | (refine keepc (by assumption) ?_; simp [go_sem, *]; done)))
              (first
                | (go_at_call 73; refine (wordL P x hP19 HPd.out HX.out _).mono ?_; rintro e w2 ⟨rfl, rfl⟩)
                | (go_at_call 61; refine (plus_no (v * T) x ht hxu hp _).mono ?_; rintro e w3 ⟨⟨v3, rfl⟩, hb3⟩; have hb3' : Below W2.heap.size W2 w3 := bl_step (Below.drew (Below.refl _ _)) hb3; have a0 := keepc hb3' nn0; have a1 := keepc hb3' nn1; have b0 := keepf hb3' siz2 gg0; have b1 := keepf hb3' siz2 gg1; have d0 := keepc hb3' m0; have d1 := keepc hb3' m1; have r0 := keepc hb3' cc0; have r1 := keepc hb3' cc1; have o0 := keepf hb3' (show w.heap.size < W2.heap.size by omega) ff0; have o1 := keepf hb3' (show w.heap.size < W2.heap.size by omega) ff1))
            go_wp2_with fail
            simp [bodyPost, results, Tryd.results44, go_sem, r0, r1]
            refine ⟨⟨HN.out, 0, hi0.symm, lo0.symm⟩, ?_⟩
            repeat (first | exact Below.refl _ _ | refine bl_alloc ?_ _ | refine Below.drew ?_ | refine bl_drewN ?_ _ | refine bl_set ?_ (by omega) _ | refine bl_step ?_ (by assumption))
        case _ =>
          have y0 := keepc hb1 (b := wr.heap.size) (o := 0) (v := .int .u64 0) (by simp [go_sem])
          have y1 := keepc hb1 (b := wr.heap.size) (o := 1) (v := .int .u64 0) (by simp [go_sem])
          refine gen_world (fun W' => Below wr.heap.size wr W' ∧ W'.cell? ⟨wr.heap.size, 0, none⟩ = some (.int .u64 (hiOf (v * T))) ∧ W'.cell? ⟨wr.heap.size, 1, none⟩ = some (.int .u64 (loOf (v * T)))) ⟨by repeat (first | exact Below.refl _ _ | refine bl_alloc ?_ _ | refine Below.drew ?_ | refine bl_drewN ?_ _ | refine bl_set ?_ (by omega) _ | refine bl_step ?_ (by assumption)), by simp [go_sem, y0], by simp [go_sem, y1]⟩ ?_
          rintro W2 ⟨hb2, m0, m1⟩
          have hW2 := HW.out.on hb2
          have HW2 := hid1 hW2
          obtain ⟨cc0, cc1, nn0, nn1, ff0, ff1, gg0, gg1, bel2, siz2⟩ := hW2
          have q9 : ¬ wr.heap.size = w.heap.size + 1 := by omega
          have q10 : ¬ w.heap.size + 1 = wr.heap.size := by omega
          clear hb1 hc hf y0 y1 t0 c0 c1 n0 n1 f0 f1 g0 g1 q1 q2 q3 q4 q5 q6 q7 q8
          by_cases hp : Siz (v * T + x)
          · go_region_held3 (fun W => W.cell? ⟨wr.heap.size, 0, none⟩ = some (.int .u64 (hiOf (v * T))) ∧ W.cell? ⟨wr.heap.size, 1, none⟩ = some (.int .u64 (loOf (v * T)))) (((try dsimp only); refine ⟨?_, ?_⟩ <;> first | (simp [go_sem, *]; done) | (refine keepc (by assumption) ?_; simp [go_sem, *]; done)))
              (first
                | (go_at_call 73; refine (wordL P x hP19 HPd.out HX.out _).mono ?_; rintro e w2 ⟨rfl, rfl⟩)
                | (go_at_call 61; refine (plus_ok (v * T) x ht hxu hp _).mono ?_; rintro e w3 ⟨rfl, hb3⟩; have hb3' : Below W2.heap.size W2 w3 := bl_step (Below.drew (Below.refl _ _)) hb3; have a0 := keepc hb3' nn0; have a1 := keepc hb3' nn1; have b0 := keepf hb3' siz2 gg0; have b1 := keepf hb3' siz2 gg1; have d0 := keepc hb3' m0; have d1 := keepc hb3' m1))
            go_wp2_with fail
            refine ⟨⟨k + p, by have := hk; have e := HL2.out; omega, by rw [drop_more HR.out HC.out.2], by rw [take_more HR.out HC.out.1, valD_append, HV.out, valD_split, hpl, HT.out, HX.out]; exact hp, ?_⟩, ?_⟩
            · rw [take_more HR.out HC.out.1, valD_append, HV.out, valD_split, hpl, HT.out, HX.out]
              exact (HW2.out.on hb3').put _
            · have e := HL2.out
              show R2.toArray.size < R.toArray.size
              simp; omega
          · have HN : Hid (¬ Siz (valD 0 s.data.toList)) := fun hS => hp (no_more HD.out HV.out HR.out HC.out HT.out HX.out hpl hS).2
            go_region_held3 (fun W => W.cell? ⟨wr.heap.size, 0, none⟩ = some (.int .u64 (hiOf (v * T))) ∧ W.cell? ⟨wr.heap.size, 1, none⟩ = some (.int .u64 (loOf (v * T)))) (((try dsimp only); refine ⟨?_, ?_⟩ <;> first | (simp [go_sem, *]; done) | (refine keepc (by assumption) ?_; simp [go_sem, *]; done)))
              (first
                | (go_at_call 73; refine (wordL P x hP19 HPd.out HX.out _).mono ?_; rintro e w2 ⟨rfl, rfl⟩)
                | (go_at_call 61; refine (plus_no (v * T) x ht hxu hp _).mono ?_; rintro e w3 ⟨⟨v3, rfl⟩, hb3⟩; have hb3' : Below W2.heap.size W2 w3 := bl_step (Below.drew (Below.refl _ _)) hb3; have a0 := keepc hb3' nn0; have a1 := keepc hb3' nn1; have b0 := keepf hb3' siz2 gg0; have b1 := keepf hb3' siz2 gg1; have d0 := keepc hb3' m0; have d1 := keepc hb3' m1; have r0 := keepc hb3' cc0; have r1 := keepc hb3' cc1; have o0 := keepf hb3' (show w.heap.size < W2.heap.size by omega) ff0; have o1 := keepf hb3' (show w.heap.size < W2.heap.size by omega) ff1))
            go_wp2_with fail
            simp [bodyPost, results, Tryd.results44, go_sem, r0, r1]
            refine ⟨⟨HN.out, 0, hi0.symm, lo0.symm⟩, ?_⟩
            repeat (first | exact Below.refl _ _ | refine bl_alloc ?_ _ | refine Below.drew ?_ | refine bl_drewN ?_ _ | refine bl_set ?_ (by omega) _ | refine bl_step ?_ (by assumption))
      · have HN : Hid (¬ Siz (valD 0 s.data.toList)) := fun hS => ht (no_more HD.out HV.out HR.out HC.out HT.out HX.out hpl hS).1
        go_wp2_with fail
        go_region_held3 (fun W => W.cell? ⟨w.heap.size + 1, 0, none⟩ = some (.int .u64 (hiOf v)) ∧ W.cell? ⟨w.heap.size + 1, 1, none⟩ = some (.int .u64 (loOf v)) ∧ W.cell? ⟨0, p, none⟩ = some (.int .u64 T)) (((try dsimp only); refine ⟨?_, ?_, ?_⟩ <;> first | (simp [go_sem, *]; done) | (simp [go_sem, *, World.cell?_setCell_other]; done) | (refine keepc (by assumption) ?_; simp [go_sem, *]; done) | (refine keepc (bl_alloc (Below.refl _ _) _) ?_; simp [go_sem, *]; done) | (refine keepc (bl_alloc (Below.refl _ _) _) ?_; refine keepc (by assumption) ?_; simp [go_sem, *]; done)))
          (first | (go_at_call 53; refine (times_no v T hsz hTu ht _).mono ?_; rintro e w1 ⟨⟨v1, rfl⟩, hb1⟩; obtain ⟨hc, hf⟩ := bcell hb1))
        all_goals
          have hb1' : Below wr.heap.size wr w1 := by repeat (first | exact Below.refl _ _ | refine bl_alloc ?_ _ | refine Below.drew ?_ | refine bl_drewN ?_ _ | refine bl_set ?_ (by omega) _ | refine bl_step ?_ (by assumption))
          have r0 := keepc hb1' c0; have r1 := keepc hb1' c1
          have o0 := keepf hb1' q8 f0; have o1 := keepf hb1' q8 f1
          have z8 : w.heap.size < w1.heap.size := by have := hb1'.size; omega
          clear hc hf
          go_wp2_with fail
          simp [bodyPost, results, Tryd.results44, go_sem, *]
          refine ⟨⟨HN.out, 0, hi0.symm, lo0.symm⟩, ?_⟩
          repeat (first | exact Below.refl _ _ | refine bl_alloc ?_ _ | refine Below.drew ?_ | refine bl_drewN ?_ _ | refine bl_set ?_ (by omega) _ | refine bl_step ?_ (by assumption))
end Go.Proofs.YtcjglbejmlebhaaDoor
