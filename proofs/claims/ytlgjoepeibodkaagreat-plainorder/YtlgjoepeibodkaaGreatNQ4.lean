/- NETWORKS: KINDS OF WEIGHTS, HOW MANY, WHAT COMES OUT, WHETHER IT FITS. -/
import Derived.Test.YtlgjoepeibodkaaGreatNQ2
import Derived.Lib.QuietBelow
import Derived.BigQuiet
namespace Go.Proofs.YtlgjoepeibodkaaGreat.Nn
open Go.RowKit

def wkE (L : Ly) : Int := if L.wt = 1 ∨ L.wt = 2 then 0 else 52
theorem weightKind_any (L : Ly) (S : Sp) (w : World) : Asks 65 L S (wkE L) w := by
  unfold Asks wkE
  have hc : L.wt = 1 ∨ L.wt = 2 ∨ (L.wt ≠ 1 ∧ L.wt ≠ 2) := by omega
  rcases hc with h1 | h1 | ⟨h1, h2⟩ <;>
  (go_enter Tryz.func65, Tryz.ntmps65
   go_wp2_with (go_at_call 83; refine (unless_any _ _ _).mono ?_; rintro e w2 ⟨rfl, rfl⟩)
   go_ret
   refine ⟨by first | rfl | simp [*], ?_⟩
   repeat (first | (with_reducible exact Below.refl _ _) | (with_reducible refine bl_alloc ?_ _) | (with_reducible refine Below.drew ?_) | (with_reducible refine bl_drewN ?_ _) | (with_reducible refine bl_set ?_ (by omega) _) | (with_reducible refine bl_step ?_ (by assumption))))
abbrev lyo (L : Ly) : Obj := .cells #[.int .i64 L.kd, .int .i64 L.wt, .int .i64 L.k, .int .i64 L.r, .int .i64 L.s, .int .i64 L.sy, .int .i64 L.sx, .int .i64 L.t, .int .i64 L.l, .int .i64 L.b, .int .i64 L.q, .int .i64 L.bd, .slice L.aw L.mw L.cw, .slice L.an L.mn L.cn, .slice L.ab L.mb L.cb] 38
abbrev sho (h v c : Int) : Obj := .cells #[.int .i64 h, .int .i64 v, .int .i64 c] 23
/-- The fifteen cells of a layer. -/
def Lc (W : World) (g o : Nat) (L : Ly) : Prop := W.cell? ⟨g, o, none⟩ = some (.int .i64 L.kd) ∧ W.cell? ⟨g, o + 1, none⟩ = some (.int .i64 L.wt) ∧ W.cell? ⟨g, o + 2, none⟩ = some (.int .i64 L.k) ∧ W.cell? ⟨g, o + 3, none⟩ = some (.int .i64 L.r) ∧ W.cell? ⟨g, o + 4, none⟩ = some (.int .i64 L.s) ∧ W.cell? ⟨g, o + 5, none⟩ = some (.int .i64 L.sy) ∧ W.cell? ⟨g, o + 6, none⟩ = some (.int .i64 L.sx) ∧ W.cell? ⟨g, o + 7, none⟩ = some (.int .i64 L.t) ∧ W.cell? ⟨g, o + 8, none⟩ = some (.int .i64 L.l) ∧ W.cell? ⟨g, o + 9, none⟩ = some (.int .i64 L.b) ∧ W.cell? ⟨g, o + 10, none⟩ = some (.int .i64 L.q) ∧ W.cell? ⟨g, o + 11, none⟩ = some (.int .i64 L.bd) ∧ W.cell? ⟨g, o + 12, none⟩ = some (.slice L.aw L.mw L.cw) ∧ W.cell? ⟨g, o + 13, none⟩ = some (.slice L.an L.mn L.cn) ∧ W.cell? ⟨g, o + 14, none⟩ = some (.slice L.ab L.mb L.cb)
theorem Lc.keep {W w' : World} {g o : Nat} {L : Ly} (k : Lc W g o L) (hb : Below W.heap.size W w') : Lc w' g o L := by
  obtain ⟨c0, c1, c2, c3, c4, c5, c6, c7, c8, c9, c10, c11, c12, c13, c14⟩ := k
  exact ⟨keepc hb c0, keepc hb c1, keepc hb c2, keepc hb c3, keepc hb c4, keepc hb c5, keepc hb c6, keepc hb c7, keepc hb c8, keepc hb c9, keepc hb c10, keepc hb c11, keepc hb c12, keepc hb c13, keepc hb c14⟩
/-- The same, of a block of its own. -/
def Lp (W : World) (g : Nat) (L : Ly) : Prop := W.cell? ⟨g, 0, none⟩ = some (.int .i64 L.kd) ∧ W.cell? ⟨g, 1, none⟩ = some (.int .i64 L.wt) ∧ W.cell? ⟨g, 2, none⟩ = some (.int .i64 L.k) ∧ W.cell? ⟨g, 3, none⟩ = some (.int .i64 L.r) ∧ W.cell? ⟨g, 4, none⟩ = some (.int .i64 L.s) ∧ W.cell? ⟨g, 5, none⟩ = some (.int .i64 L.sy) ∧ W.cell? ⟨g, 6, none⟩ = some (.int .i64 L.sx) ∧ W.cell? ⟨g, 7, none⟩ = some (.int .i64 L.t) ∧ W.cell? ⟨g, 8, none⟩ = some (.int .i64 L.l) ∧ W.cell? ⟨g, 9, none⟩ = some (.int .i64 L.b) ∧ W.cell? ⟨g, 10, none⟩ = some (.int .i64 L.q) ∧ W.cell? ⟨g, 11, none⟩ = some (.int .i64 L.bd) ∧ W.cell? ⟨g, 12, none⟩ = some (.slice L.aw L.mw L.cw) ∧ W.cell? ⟨g, 13, none⟩ = some (.slice L.an L.mn L.cn) ∧ W.cell? ⟨g, 14, none⟩ = some (.slice L.ab L.mb L.cb)
theorem Lp.keep {W w' : World} {g : Nat} {L : Ly} (k : Lp W g L) (hb : Below W.heap.size W w') : Lp w' g L := by
  obtain ⟨c0, c1, c2, c3, c4, c5, c6, c7, c8, c9, c10, c11, c12, c13, c14⟩ := k
  exact ⟨keepc hb c0, keepc hb c1, keepc hb c2, keepc hb c3, keepc hb c4, keepc hb c5, keepc hb c6, keepc hb c7, keepc hb c8, keepc hb c9, keepc hb c10, keepc hb c11, keepc hb c12, keepc hb c13, keepc hb c14⟩
theorem lp_new (W : World) (L : Ly) (t : TypeId) : Lp (W.alloc (.cells #[.int .i64 L.kd, .int .i64 L.wt, .int .i64 L.k, .int .i64 L.r, .int .i64 L.s, .int .i64 L.sy, .int .i64 L.sx, .int .i64 L.t, .int .i64 L.l, .int .i64 L.b, .int .i64 L.q, .int .i64 L.bd, .slice L.aw L.mw L.cw, .slice L.an L.mn L.cn, .slice L.ab L.mb L.cb] t)) W.heap.size L := by
  refine ⟨?_, ?_, ?_, ?_, ?_, ?_, ?_, ?_, ?_, ?_, ?_, ?_, ?_, ?_, ?_⟩ <;> simp [go_sem]
def Sq (W : World) (g : Nat) (h v c : Int) : Prop := W.cell? ⟨g, 0, none⟩ = some (.int .i64 h) ∧ W.cell? ⟨g, 1, none⟩ = some (.int .i64 v) ∧ W.cell? ⟨g, 2, none⟩ = some (.int .i64 c)
theorem sq_new {W : World} {g : Nat} (hg : W.heap.size = g) (h v c : Int) (t : TypeId) : Sq (W.alloc (.cells #[.int .i64 h, .int .i64 v, .int .i64 c] t)) g h v c := by
  subst hg
  refine ⟨?_, ?_, ?_⟩ <;> simp [go_sem]
/-- How many weights an output has. -/
def fan (L : Ly) (h v c : Int) : Int := if L.kd = 2 then h * v * c else L.r * L.s * c
def Fok (L : Ly) : Prop := L.kd = 2 ∨ ((1 ≤ L.r ∧ L.r ≤ 15) ∧ (1 ≤ L.s ∧ L.s ≤ 15))
theorem mul215 {a b : Int} (h1 : 1 ≤ a ∧ a ≤ 15) (h2 : 1 ≤ b ∧ b ≤ 15) : 1 ≤ a * b ∧ a * b ≤ 225 := by
  constructor
  · have := Int.mul_le_mul h1.1 h2.1 (by decide) (by omega); simpa using this
  · have := Int.mul_le_mul h1.2 h2.2 (by omega) (by decide); simpa using this
theorem mul225 {a b : Int} (h1 : 1 ≤ a ∧ a ≤ 225) (h2 : 1 ≤ b ∧ b ≤ 4096) : 1 ≤ a * b ∧ a * b ≤ 921600 := by
  constructor
  · have := Int.mul_le_mul h1.1 h2.1 (by decide) (by omega); simpa using this
  · have := Int.mul_le_mul h1.2 h2.2 (by omega) (by decide); simpa using this
theorem mulK {a b : Int} (h1 : 0 ≤ a ∧ a ≤ 4096) (h2 : 1 ≤ b ∧ b ≤ 68719476736) : 0 ≤ a * b ∧ a * b ≤ 281474976710656 := by
  constructor
  · exact Int.mul_nonneg h1.1 (by omega)
  · have := Int.mul_le_mul h1.2 h2.2 (by omega) (by decide); simpa using this
theorem fan_b {L : Ly} {h v c : Int} (hs : Sides h v c) (hf : Fok L) : 1 ≤ fan L h v c ∧ fan L h v c ≤ 68719476736 := by
  unfold fan
  by_cases hk : L.kd = 2
  · rw [if_pos hk]; exact mul3 hs
  · rw [if_neg hk]
    rcases hf with hf | ⟨hr, hq⟩
    · exact absurd hf hk
    · have := mul225 (mul215 hr hq) hs.2.2
      omega
theorem fanIn_any (L : Ly) (h v c : Int) (hs : Sides h v c) (hf : Fok L) (w : World) :
    Calls Tryz.prog 75 #[lyv L, shp h v c] w fun e w' => e = .returned (.int .i64 (fan L h v c)) ∧ w' = (w.alloc (lyo L)).alloc (sho h v c) := by
  have hb := fan_b hs hf
  unfold fan at hb ⊢
  by_cases hk : L.kd = 2
  · rw [if_pos hk] at hb ⊢
    have m1 := mul2 hs.1 hs.2.1
    have e1 := wr_id (x := h * v) (by omega) (by omega)
    have e2 := wr_id (x := h * v * c) (by omega) (by omega)
    clear hs hf
    go_enter Tryz.func75, Tryz.ntmps75
    go_wp2
    go_ret
    exact ⟨by first | rfl | simp [*], by first | rfl | (unfold lyo; simp [*])⟩
  · rw [if_neg hk] at hb ⊢
    have m1 : 1 ≤ L.r * L.s ∧ L.r * L.s ≤ 225 := by
      rcases hf with hf | ⟨hr, hq⟩
      · exact absurd hf hk
      · exact mul215 hr hq
    have e1 := wr_id (x := L.r * L.s) (by omega) (by omega)
    have e2 := wr_id (x := L.r * L.s * c) (by omega) (by omega)
    clear hs hf
    go_enter Tryz.func75, Tryz.ntmps75
    go_wp2
    go_ret
    exact ⟨by first | rfl | simp [*], by first | rfl | (unfold lyo; simp [*])⟩
def wc (L : Ly) (h v c : Int) : Int := L.k * fan L h v c
theorem wc_b {L : Ly} {h v c : Int} (hs : Sides h v c) (hf : Fok L) (hk : 0 ≤ L.k ∧ L.k ≤ 4096) : 0 ≤ wc L h v c ∧ wc L h v c ≤ 281474976710656 := mulK hk (fan_b hs hf)
theorem unless_bl (x : Bool) (e : Int) (w : World) : Calls Tryz.prog 83 #[.bool x, .int .i64 e] w fun r w' => r = .returned (.int .i64 (if x = true then 0 else e)) ∧ Below w.heap.size w w' :=
  (unless_any x e w).mono fun _ _ ⟨h1, h2⟩ => ⟨h1, h2 ▸ Below.refl _ _⟩
theorem fanIn_bl (L : Ly) (h v c : Int) (hs : Sides h v c) (hf : Fok L) (w : World) :
    Calls Tryz.prog 75 #[lyv L, shp h v c] w fun e w' => e = .returned (.int .i64 (fan L h v c)) ∧ Below w.heap.size w w' := by
  refine (fanIn_any L h v c hs hf w).mono ?_
  rintro e w' ⟨rfl, rfl⟩
  exact ⟨rfl, bl_alloc (bl_alloc (Below.refl _ _) _) _⟩
theorem weightCount_any (L : Ly) (h v c : Int) (hs : Sides h v c) (hf : Fok L) (hk : 0 ≤ L.k ∧ L.k ≤ 4096) (w : World) :
    Calls Tryz.prog 46 #[lyv L, shp h v c] w fun e w' => e = .returned (.int .i64 (wc L h v c)) ∧ Below w.heap.size w w' := by
  have hb := wc_b hs hf hk
  unfold wc at hb ⊢
  have HS := hid1 hs
  have HF := hid1 hf
  have cA := fun Y d os => Calls.regrown_of (w := Y) (d := d) (os := os) (fanIn_bl L h v c hs hf _)
  obtain ⟨f, hF⟩ : ∃ f, f = fan L h v c := ⟨_, rfl⟩
  rw [← hF] at hb ⊢
  rw [← hF] at cA
  have e1 := wr_id (x := L.k * f) (by omega) (by omega)
  clear hs hf hk hF
  go_enter Tryz.func46, Tryz.ntmps46
  go_wp2_with fail
  refine gen_world (fun X => Below w.heap.size w X ∧ Lp X w.heap.size L ∧ Sq X (w.heap.size + 1) h v c) ⟨by repeat (first | (with_reducible exact Below.refl _ _) | (with_reducible refine bl_alloc ?_ _) | (with_reducible refine Below.drew ?_) | (with_reducible refine bl_drewN ?_ _) | (with_reducible refine bl_set ?_ (by omega) _) | (with_reducible refine bl_step ?_ (by assumption))), (lp_new _ _ _).keep (bl_alloc (Below.refl _ _) _), sq_new (by simp) _ _ _ _⟩ ?_
  rintro Y ⟨BY, ⟨c0, c1, c2, c3, c4, c5, c6, c7, c8, c9, c10, c11, c12, c13, c14⟩, ⟨s0, s1, s2⟩⟩
  have k0 := cell_regrown c0; have k1 := cell_regrown c1; have k2 := cell_regrown c2; have k3 := cell_regrown c3; have k4 := cell_regrown c4; have k5 := cell_regrown c5; have k6 := cell_regrown c6; have k7 := cell_regrown c7; have k8 := cell_regrown c8; have k9 := cell_regrown c9; have k10 := cell_regrown c10; have k11 := cell_regrown c11; have k12 := cell_regrown c12; have k13 := cell_regrown c13; have k14 := cell_regrown c14
  have j0 := cell_regrown s0; have j1 := cell_regrown s1; have j2 := cell_regrown s2
  replace cA := cA Y
  refine wp_region_quiet_below (by kernel_rfl) (by kernel_rfl) ?_
  repeat (any_goals (first | go_big_quiet_step ((go_at_call 75; exact cA _ _)) | quiet_step ((go_at_call 75; exact cA _ _))))
  refine wpQuiet_nil ?_
  intro _ hw'
  obtain ⟨⟨dq, osq⟩, hw''⟩ := hw'
  subst hw''
  go_wp2_with fail
  go_ret
  exact ⟨by first | rfl | simp [*], bl_step BY (below_regrown Y dq osq)⟩
def wrE (L : Ly) (S : Sp) : Int := if S.ah + wc L S.h S.v S.c ≤ 16777216 then 0 else 31
def So (W : World) (g : Nat) (S : Sp) : Prop := W.cell? ⟨g, 0, none⟩ = some (.int .i64 S.h) ∧ W.cell? ⟨g, 1, none⟩ = some (.int .i64 S.v) ∧ W.cell? ⟨g, 2, none⟩ = some (.int .i64 S.c) ∧ W.cell? ⟨g, 3, none⟩ = some (.int .i64 S.ah) ∧ W.cell? ⟨g, 4, none⟩ = some (.bool S.fs) ∧ W.cell? ⟨g, 5, none⟩ = some (.bool S.la)
theorem So.keep {W w' : World} {g : Nat} {S : Sp} (k : So W g S) (hb : Below W.heap.size W w') : So w' g S := by
  obtain ⟨c0, c1, c2, c3, c4, c5⟩ := k
  exact ⟨keepc hb c0, keepc hb c1, keepc hb c2, keepc hb c3, keepc hb c4, keepc hb c5⟩
theorem so_new {W : World} {g : Nat} (hg : W.heap.size = g) (S : Sp) (t : TypeId) : So (W.alloc (.cells #[.int .i64 S.h, .int .i64 S.v, .int .i64 S.c, .int .i64 S.ah, .bool S.fs, .bool S.la] t)) g S := by
  subst hg
  refine ⟨?_, ?_, ?_, ?_, ?_, ?_⟩ <;> simp [go_sem]
theorem weightRoom_any (L : Ly) (S : Sp) (hs : Sides S.h S.v S.c) (hf : Fok L) (hk : 0 ≤ L.k ∧ L.k ≤ 4096) (ha : 0 ≤ S.ah ∧ S.ah ≤ 16777216) (w : World) : Asks 66 L S (wrE L S) w := by
  unfold Asks wrE
  have hb := wc_b hs hf hk
  have cA := fun Y d os => Calls.regrown_of (w := Y) (d := d) (os := os) (weightCount_any L S.h S.v S.c hs hf hk _)
  obtain ⟨f, hF⟩ : ∃ f, f = wc L S.h S.v S.c := ⟨_, rfl⟩
  rw [← hF] at hb ⊢
  rw [← hF] at cA
  have e1 := wr_id (x := S.ah + f) (by omega) (by omega)
  clear hs hf hk hF
  go_enter Tryz.func66, Tryz.ntmps66
  go_wp2_with fail
  refine gen_world (fun X => Below w.heap.size w X ∧ Lp X w.heap.size L ∧ So X (w.heap.size + 1) S) ⟨by repeat (first | (with_reducible exact Below.refl _ _) | (with_reducible refine bl_alloc ?_ _) | (with_reducible refine Below.drew ?_) | (with_reducible refine bl_drewN ?_ _) | (with_reducible refine bl_set ?_ (by omega) _) | (with_reducible refine bl_step ?_ (by assumption))), (lp_new _ _ _).keep (bl_alloc (Below.refl _ _) _), so_new (by simp) _ _⟩ ?_
  rintro Y ⟨BY, ⟨c0, c1, c2, c3, c4, c5, c6, c7, c8, c9, c10, c11, c12, c13, c14⟩, ⟨s0, s1, s2, s3, s4, s5⟩⟩
  have k0 := cell_regrown c0; have k1 := cell_regrown c1; have k2 := cell_regrown c2; have k3 := cell_regrown c3; have k4 := cell_regrown c4; have k5 := cell_regrown c5; have k6 := cell_regrown c6; have k7 := cell_regrown c7; have k8 := cell_regrown c8; have k9 := cell_regrown c9; have k10 := cell_regrown c10; have k11 := cell_regrown c11; have k12 := cell_regrown c12; have k13 := cell_regrown c13; have k14 := cell_regrown c14
  have j0 := cell_regrown s0; have j1 := cell_regrown s1; have j2 := cell_regrown s2; have j3 := cell_regrown s3
  replace cA := cA Y
  have cU := fun x d os => Calls.regrown_of (w := Y) (d := d) (os := os) (unless_bl x 31 _)
  refine wp_region_quiet_below (by kernel_rfl) (by kernel_rfl) ?_
  repeat (any_goals (first | go_big_quiet_step (first | (go_at_call 46; exact cA _ _) | (go_at_call 83; exact cU _ _ _)) | quiet_step (first | (go_at_call 46; exact cA _ _) | (go_at_call 83; exact cU _ _ _))))
  refine wpQuiet_nil ?_
  intro _ hw'
  obtain ⟨⟨dq, osq⟩, hw''⟩ := hw'
  subst hw''
  go_wp2_with fail
  all_goals go_ret
  all_goals exact ⟨by first | rfl | simp [*], bl_step BY (below_regrown Y dq osq)⟩
end Go.Proofs.YtlgjoepeibodkaaGreat.Nn
