import Derived.Test.YteghelmbibpohaaBW43
import Derived.Test.YteghelmbibpohaaQI
import Derived.Deep.RegionHeld3
/- The answers of package bits, each in a block of its own. -/
namespace Go.Proofs.Yteghelmbibpohaa
open Go.RowKit

/-- Nothing, or a whole block: no room behind it. -/
def Own (w : World) (T : TypeId) (ao : Option Addr) (m c : Nat) (f : Nat → Value) : Prop := (ao = none ∧ m = 0 ∧ c = 0) ∨ ∃ g, ao = some ⟨g, 0, none⟩ ∧ c = m ∧ w.rowIs g T m f
theorem Own.bp {S : Nat → Prop} {w w' : World} {T : TypeId} {ao : Option Addr} {m c : Nat} {f : Nat → Value} (h : Own w T ao m c f) (hb : BP S w w') (hs : ∀ p, ao = some p → ¬ S p.block) : Own w' T ao m c f := by
  rcases h with h | ⟨g, e, h1, h2⟩
  · exact .inl h
  · exact .inr ⟨g, e, h1, hb.row (hs _ e) h2⟩
theorem Own.none (w : World) (T : TypeId) (f : Nat → Value) : Own w T none 0 0 f := .inl ⟨rfl, rfl, rfl⟩
def RO (b : Nat) (w : World) (v : Value) (r : RS) : Prop := ∃ ao c, v = .tuple #[rv r.n ao r.m c, .int .i64 r.e] ∧ Ro w ao r.m r.N ∧ r.m ≤ 262144 ∧ (∀ p, ao = some p → b ≤ p.block) ∧ Own w 35 ao r.m c (wf r.N)
theorem oa_bad (b : Nat) (w : World) (e : Int) : RO b w (.tuple #[rv 0 none 0 0, .int .i64 e]) (rbad e) := ⟨none, 0, rfl, ⟨by simp [rbad], fun k hk => absurd hk (by simp [rbad])⟩, by simp [rbad], fun p hp => (nomatch hp), Own.none _ _ _⟩
theorem oa_ok {w : World} {b n N g : Nat} (hle : b ≤ g) (h1 : n ≤ 16777216) (hN : N < 2 ^ n) (h : w.rowIs g 35 (nw n) (wf N)) : RO b w (.tuple #[rv n (some ⟨g, 0, none⟩) (nw n) (nw n), .int .i64 0]) (rok n N) :=
  ⟨_, _, rfl, Ro.of (Rd.row h (lt_nw hN)), nw_bd h1, fun p hp => by injection hp with hp; subst hp; exact hle, .inr ⟨g, rfl, rfl, h⟩⟩
def SO (b : Nat) (w : World) (v : Value) (r : SS) : Prop := ∃ so sc, v = .tuple #[.slice so r.l sc, .int .i64 r.e] ∧ Rs w so r.l (fun k => .int .i8 (r.f k)) ∧ r.l ≤ 16777216 ∧ (∀ p, so = some p → b ≤ p.block) ∧ Own w 24 so r.l sc (fun k => .int .i8 (r.f k))
theorem pack_own (l : List Int) (m cl : Nat) (hml : l.length = m) (la : Option Addr) (w : World) (hm : m ≤ 9223372036854775807) (h : R8 w la l) :
    Calls Try.prog 10 #[.slice la m cl] w fun e w' => ∃ v, e = .returned v ∧ RO w.heap.size w' v (packS l) ∧ Below w.heap.size w w' := by
  subst hml
  unfold packS
  by_cases h1 : 16777216 < l.length
  · rw [if_pos h1]
    refine (pack_long l la cl w h1 hm).mono ?_
    rintro e w1 ⟨rfl, hb⟩
    exact ⟨_, rfl, oa_bad _ _ _, hb⟩
  · rw [if_neg h1]
    refine (pack_any l l.length rfl la cl w (by omega) h).mono ?_
    rintro e w1 ⟨g, rfl, hle, hrow, hb⟩
    exact ⟨_, rfl, oa_ok hle (by omega) (pk_lt _ _) hrow, hb⟩
theorem not_own (n : Int) (m N : Nat) (ao : Option Addr) (cap : Nat) (w : World) (hm : m ≤ 1048576) (h : Rd w ao m N) :
    Calls Try.prog 18 #[rv n ao m cap] w fun e w' => ∃ v, e = .returned v ∧ RO w.heap.size w' v (notS n m N) ∧ Below w.heap.size w w' := by
  unfold notS
  by_cases h1 : chk n m N = 0
  · obtain ⟨k, rfl, h2, rfl, h3⟩ := chk_zero h1
    rw [if_pos h1, Int.toNat_natCast]
    refine (not_any k N ao cap w h2 h3 h).mono ?_
    rintro e w1 ⟨g, rfl, hle, hrow, hb⟩
    exact ⟨_, rfl, oa_ok hle h2 (nt_lt _ _) hrow, hb⟩
  · rw [if_neg h1]
    refine (not_bad n m N ao cap w (by omega) h h1).mono ?_
    rintro e w1 ⟨rfl, hb⟩
    exact ⟨_, rfl, oa_bad _ _ _, hb⟩
theorem and_own (n1 n2 : Int) (m1 m2 A B : Nat) (ao bo : Option Addr) (ca cb : Nat) (w : World) (hm1 : m1 ≤ 1048576) (hm2 : m2 ≤ 1048576) (ra : Rd w ao m1 A) (rb : Rd w bo m2 B) :
    Calls Try.prog 22 #[rv n1 ao m1 ca, rv n2 bo m2 cb] w fun e w' => ∃ v, e = .returned v ∧ RO w.heap.size w' v (andS n1 m1 A n2 m2 B) ∧ Below w.heap.size w w' := by
  unfold andS
  by_cases h1 : pairE n1 m1 A n2 m2 B = 0
  · obtain ⟨k, rfl, rfl, h2, rfl, rfl, h3, h4⟩ := pair_zero h1
    rw [if_pos h1, Int.toNat_natCast]
    refine (and_any k A B ao bo ca cb w h2 h3 h4 ra rb).mono ?_
    rintro e w1 ⟨g, rfl, hle, hrow, hb⟩
    exact ⟨_, rfl, oa_ok hle h2 (and_lt' h3) hrow, hb⟩
  · rw [if_neg h1]
    refine (and_bad n1 n2 m1 m2 A B ao bo ca cb w (by omega) (by omega) ra rb h1).mono ?_
    rintro e w1 ⟨rfl, hb⟩
    exact ⟨_, rfl, oa_bad _ _ _, hb⟩
theorem xor_own (n1 n2 : Int) (m1 m2 A B : Nat) (ao bo : Option Addr) (ca cb : Nat) (w : World) (hm1 : m1 ≤ 1048576) (hm2 : m2 ≤ 1048576) (ra : Rd w ao m1 A) (rb : Rd w bo m2 B) :
    Calls Try.prog 23 #[rv n1 ao m1 ca, rv n2 bo m2 cb] w fun e w' => ∃ v, e = .returned v ∧ RO w.heap.size w' v (xorS n1 m1 A n2 m2 B) ∧ Below w.heap.size w w' := by
  unfold xorS
  by_cases h1 : pairE n1 m1 A n2 m2 B = 0
  · obtain ⟨k, rfl, rfl, h2, rfl, rfl, h3, h4⟩ := pair_zero h1
    rw [if_pos h1, Int.toNat_natCast]
    refine (xor_any k A B ao bo ca cb w h2 h3 h4 ra rb).mono ?_
    rintro e w1 ⟨g, rfl, hle, hrow, hb⟩
    exact ⟨_, rfl, oa_ok hle h2 (xor_lt' h3 h4) hrow, hb⟩
  · rw [if_neg h1]
    refine (xor_bad n1 n2 m1 m2 A B ao bo ca cb w (by omega) (by omega) ra rb h1).mono ?_
    rintro e w1 ⟨rfl, hb⟩
    exact ⟨_, rfl, oa_bad _ _ _, hb⟩
theorem slice_own (n : Int) (m N : Nat) (a b : Int) (ao : Option Addr) (cap : Nat) (w : World) (hm : m ≤ 1048576) (h : Rd w ao m N) :
    Calls Try.prog 12 #[rv n ao m cap, .int .i64 a, .int .i64 b] w fun e w' => ∃ v, e = .returned v ∧ RO w.heap.size w' v (sliceS n m N a b) ∧ Below w.heap.size w w' := by
  unfold sliceS
  by_cases h1 : chk n m N = 0
  · obtain ⟨k, rfl, h2, rfl, h3⟩ := chk_zero h1
    rw [if_pos h1]
    by_cases hab : a < 0 ∨ b < a ∨ (k : Int) < b
    · rw [if_pos hab]
      refine (slice_arg k N a b ao cap w h2 h3 h hab).mono ?_
      rintro e w1 ⟨rfl, hb⟩
      exact ⟨_, rfl, oa_bad _ _ _, hb⟩
    · rw [if_neg hab]
      obtain ⟨a, rfl⟩ := Int.eq_ofNat_of_zero_le (show 0 ≤ a by omega)
      obtain ⟨b, rfl⟩ := Int.eq_ofNat_of_zero_le (show 0 ≤ b by omega)
      simp only [Int.toNat_natCast]
      refine (slice_any k N a b ao cap w h2 h3 h (by omega) (by omega)).mono ?_
      rintro e w1 ⟨g, rfl, hle, hrow, hb⟩
      exact ⟨_, rfl, oa_ok hle (by omega) (sl_lt _ _ _) hrow, hb⟩
  · rw [if_neg h1]
    refine (slice_bad n m N a b ao cap w (by omega) h h1).mono ?_
    rintro e w1 ⟨rfl, hb⟩
    exact ⟨_, rfl, oa_bad _ _ _, hb⟩

theorem unpack_own (n : Int) (m N : Nat) (ao : Option Addr) (cap : Nat) (w : World) (hm : m ≤ 1048576) (h : Rd w ao m N) :
    Calls Try.prog 20 #[rv n ao m cap] w fun e w' => ∃ v, e = .returned v ∧ SO w.heap.size w' v (unpackS n m N) ∧ Below w.heap.size w w' := by
  unfold unpackS
  by_cases h1 : chk n m N = 0
  · obtain ⟨k, rfl, h2, rfl, h3⟩ := chk_zero h1
    rw [if_pos h1, Int.toNat_natCast]
    refine (unpack_any k N ao cap w h2 h3 h).mono ?_
    rintro e w1 ⟨g, rfl, hle, hrow, hb⟩
    exact ⟨_, rfl, ⟨_, _, rfl, fun j hj => ⟨g, 0, rfl, by rw [Nat.zero_add]; exact hrow.cell hj⟩, h2, fun p hp => by injection hp with hp; subst hp; exact hle, .inr ⟨g, rfl, rfl, hrow⟩⟩, hb⟩
  · rw [if_neg h1]
    refine (unpack_bad n m N ao cap w (by omega) h h1).mono ?_
    rintro e w1 ⟨rfl, hb⟩
    exact ⟨_, rfl, ⟨_, _, rfl, fun j hj => absurd hj (by simp), by simp, fun p hp => (nomatch hp), Own.none _ _ _⟩, hb⟩
theorem join_own (J : Nat) (n : Nat → Int) (m N : Nat → Nat) (gl cl : Nat) (ad : Nat → Option Addr) (cp : Nat → Nat) (r : RS) (hr : JS J n m N r) (w : World) (hJ : J ≤ 1048576) (h : Jo Rd w (some ⟨gl, 0, none⟩) J n m N ad cp) (hm : ∀ j, j < J → m j ≤ 1048576) :
    Calls Try.prog 13 #[.slice (some ⟨gl, 0, none⟩) J cl] w fun e w' => ∃ v, e = .returned v ∧ RO w.heap.size w' v r ∧ Below w.heap.size w w' := by
  have at0 : ∀ j, j < J → w.cell? ⟨gl, j * 2, none⟩ = some (.int .i64 (n j)) ∧ w.cell? ⟨gl, j * 2 + 1, none⟩ = some (.slice (ad j) (m j) (cp j)) := fun j hj => by
    obtain ⟨gl', ol, e, c, d⟩ := h.at_ j hj
    injection e with e
    injection e with e1 e2
    subst e1 e2
    rw [Nat.zero_add] at c d
    exact ⟨c, d⟩
  have js : (∀ j, j < J → chk (n j) (m j) (N j) = 0) → Js w gl J (fun j => (n j).toNat) N ad cp := fun hall =>
    ⟨fun j hj => by
      obtain ⟨e1, _, _, _⟩ := ok_of (hall j hj)
      rw [← e1]; exact (at0 j hj).1,
     fun j hj => by
      obtain ⟨_, _, e3, _⟩ := ok_of (hall j hj)
      rw [← e3]; exact (at0 j hj).2,
     fun j hj => by
      obtain ⟨_, _, e3, _⟩ := ok_of (hall j hj)
      rw [← e3]; exact h.rd j hj,
     fun j hj => (ok_of (hall j hj)).2.2.2, fun j hj => (ok_of (hall j hj)).2.1⟩
  rcases hr with ⟨K, h1, h2, h3, rfl⟩ | ⟨hall, h2, rfl⟩ | ⟨hall, h2, rfl⟩
  · refine (join_bad J K n m N _ cl ad cp w hJ h1 h hm h2 h3).mono ?_
    rintro e w1 ⟨rfl, hb⟩
    exact ⟨_, rfl, oa_bad _ _ _, hb⟩
  · refine (join_long J gl cl _ N ad cp w hJ (js hall) h2).mono ?_
    rintro e w1 ⟨rfl, hb⟩
    exact ⟨_, rfl, oa_bad _ _ _, hb⟩
  · refine (join_any J gl cl _ N ad cp w hJ (js hall) h2).mono ?_
    rintro e w1 ⟨g, rfl, hle, hrow, hb⟩
    exact ⟨_, rfl, oa_ok hle h2 (jn_lt J (js hall).lt) hrow, hb⟩
end Go.Proofs.Yteghelmbibpohaa
/- The Hand while it is being filled; its blocks lie in any set (BW46: above a bound). -/
namespace Go.Proofs.Yteghelmbibpohaa
open Go.RowKit

/-- Nothing, or a whole block at or above h0 that is none of X. -/
def Pl (w : World) (h0 : Nat → Prop) (T : TypeId) (k : Nat) (X : Nat → Prop) (v : Value) : Prop := v = .slice none 0 0 ∨ ∃ g co f, v = .slice (some ⟨g, 0, none⟩) co co ∧ w.rowIs g T (co * k) f ∧ co ≤ maxLen ∧ h0 g ∧ ¬ X g
theorem Pl.but {w w1 : World} {h0 : Nat → Prop} {T k g : Nat} {X : Nat → Prop} {v : Value} (h : Pl w h0 T k X v) (hu : But g w w1) (hg : ∀ co, v ≠ .slice (some ⟨g, 0, none⟩) co co) : Pl w1 h0 T k X v := by
  rcases h with h | ⟨b, co, f, e, h1, h2, h3, h4⟩
  · exact .inl h
  · refine .inr ⟨b, co, f, e, hu.row ?_ h1, h2, h3, h4⟩
    rintro rfl
    exact hg co e
/-- A block of another type is none of it. -/
theorem Pl.ne {w : World} {h0 : Nat → Prop} {T k g T' n : Nat} {X : Nat → Prop} {v : Value} {F : Nat → Value} (h : Pl w h0 T k X v) (hr : w.rowIs g T' n F) (hT : T ≠ T') : ∀ co, v ≠ .slice (some ⟨g, 0, none⟩) co co := by
  rintro co rfl
  rcases h with h | ⟨b, co, f, e, h1, _⟩
  · injection h with h; cases h
  · injection e with e; injection e with e; injection e with e; subst e
    exact row_ne h1 hr hT rfl
theorem Pl.new {w : World} {h0 : Nat → Prop} {T k g : Nat} {X : Nat → Prop} {v : Value} (h : Pl w h0 T k X v) (hg : w.heap.size ≤ g) : ∀ co, v ≠ .slice (some ⟨g, 0, none⟩) co co := by
  rintro co rfl
  rcases h with h | ⟨b, co, f, e, h1, _⟩
  · injection h with h; cases h
  · injection e with e; injection e with e; injection e with e; subst e
    have := h1.lt; omega
theorem Pl.mono {w : World} {h0 : Nat → Prop} {T k : Nat} {X Y : Nat → Prop} {v : Value} (h : Pl w h0 T k X v) (hx : ∀ b co, v = .slice (some ⟨b, 0, none⟩) co co → Y b → X b) : Pl w h0 T k Y v := by
  rcases h with h | ⟨b, co, f, e, h1, h2, h3, h4⟩
  · exact .inl h
  · exact .inr ⟨b, co, f, e, h1, h2, h3, fun hy => h4 (hx b co e hy)⟩
structure Hq (w : World) (h0 : Nat → Prop) (hb : Nat) (va vb vs vw vr : Value) (gw lw : Nat) (gi ci : Nat → Nat) (ff : Nat → Nat → Value) : Prop where
  h : Hd w hb va vb vs vw vr
  lo : h0 hb
  a : Pl w h0 35 1 (fun b => ∃ j, j < lw ∧ b = gi j) va
  b : Pl w h0 35 1 (fun b => (∃ co, va = .slice (some ⟨b, 0, none⟩) co co) ∨ ∃ j, j < lw ∧ b = gi j) vb
  s : Pl w h0 24 1 (fun _ => False) vs
  r : Pl w h0 27 2 (fun _ => False) vr
  d : Wd w vw gw lw gi ci ff
  dl : lw ≤ 1048576
  dg : (vw = .slice none 0 0 ∨ h0 gw) ∧ ∀ j, j < lw → h0 (gi j)
section
variable {w w1 : World} {h0 : Nat → Prop} {hb gw lw : Nat} {va vb vs vw vr : Value} {gi ci : Nat → Nat} {ff : Nat → Nat → Value}
theorem Hd.set0 (h : Hd w hb va vb vs vw vr) (x : Value) : Hd (w.setCell ⟨hb, 0, none⟩ x) hb x vb vs vw vr :=
  (h.set 0 x).congr fun j hj => by
    rcases (show j = 0 ∨ j = 1 ∨ j = 2 ∨ j = 3 ∨ j = 4 by omega) with rfl | rfl | rfl | rfl | rfl <;> rfl
theorem Hd.set1 (h : Hd w hb va vb vs vw vr) (x : Value) : Hd (w.setCell ⟨hb, 1, none⟩ x) hb va x vs vw vr :=
  (h.set 1 x).congr fun j hj => by
    rcases (show j = 0 ∨ j = 1 ∨ j = 2 ∨ j = 3 ∨ j = 4 by omega) with rfl | rfl | rfl | rfl | rfl <;> rfl
theorem Wd.keep2 {g : Nat} (h : Wd w vw gw lw gi ci ff) (hu : But g w w1) (h1 : ∀ T n F, w.rowIs g T n F → T ≠ 25) (h2 : ∀ j, j < lw → gi j ≠ g) : Wd w1 vw gw lw gi ci ff :=
  ⟨by
    rcases h.val with h | ⟨cw, f, e, k1, k2, k3, k4⟩
    · exact .inl h
    · refine .inr ⟨cw, f, e, k1, k2, hu.row ?_ k3, k4⟩
      rintro rfl
      exact h1 _ _ _ k3 rfl, fun j hj => hu.row (h2 j hj) (h.row j hj), h.max, h.inj⟩
/-- The Hand is as it was behind what turns its own first cells alone. -/
theorem Hq.below (h : Hq w h0 hb va vb vs vw vr gw lw gi ci ff) (hu : Below w.heap.size w w1) : Hq w1 h0 hb va vb vs vw vr gw lw gi ci ff := by
  have hu' : But w.heap.size w w1 := But.of_below hu
  exact ⟨hu'.row (by have := h.h.lt; omega) h.h, h.lo, h.a.but hu' (h.a.new (Nat.le_refl _)), h.b.but hu' (h.b.new (Nat.le_refl _)), h.s.but hu' (h.s.new (Nat.le_refl _)), h.r.but hu' (h.r.new (Nat.le_refl _)),
    h.d.keep2 hu' (fun T n F k => by have := k.lt; omega) (fun j hj => by have := (h.d.row j hj).lt; omega), h.dl, h.dg⟩
/-- filled of h.a: where, and what is then. -/
theorem Hq.fillA (h : Hq w h0 hb va vb vs vw vr gw lw gi ci ff) (hz : ∀ b, w.heap.size ≤ b → h0 b) : ∃ ga, Om w 35 va ga ∧ ∀ w1 g c F, But ga w w1 → (g = ga ∨ w.heap.size ≤ g) → w1.rowIs g 35 c F → c ≤ maxLen →
    Hd w1 hb va vb vs vw vr ∧ Hq (w1.setCell ⟨hb, 0, none⟩ (.slice (some ⟨g, 0, none⟩) c c)) h0 hb (.slice (some ⟨g, 0, none⟩) c c) vb vs vw vr gw lw gi ci ff ∧ BP h0 w (w1.setCell ⟨hb, 0, none⟩ (.slice (some ⟨g, 0, none⟩) c c)) ∧ (w1.setCell ⟨hb, 0, none⟩ (.slice (some ⟨g, 0, none⟩) c c)).rowIs g 35 c F ∧ ∀ b T n G, T ≠ 35 → T ≠ 53 → w.rowIs b T n G → (w1.setCell ⟨hb, 0, none⟩ (.slice (some ⟨g, 0, none⟩) c c)).rowIs b T n G := by
  have key : ∀ ga, h0 ga → hb ≠ ga → (∀ co, vb ≠ .slice (some ⟨ga, 0, none⟩) co co) → (∀ co, vs ≠ .slice (some ⟨ga, 0, none⟩) co co) → (∀ co, vr ≠ .slice (some ⟨ga, 0, none⟩) co co) → (∀ T n F, w.rowIs ga T n F → T ≠ 25) → (∀ j, j < lw → gi j ≠ ga) → (∀ b T n G, T ≠ 35 → w.rowIs b T n G → b ≠ ga) →
      ∀ w1 g c F, But ga w w1 → (g = ga ∨ w.heap.size ≤ g) → w1.rowIs g 35 c F → c ≤ maxLen → Hd w1 hb va vb vs vw vr ∧ Hq (w1.setCell ⟨hb, 0, none⟩ (.slice (some ⟨g, 0, none⟩) c c)) h0 hb (.slice (some ⟨g, 0, none⟩) c c) vb vs vw vr gw lw gi ci ff ∧ BP h0 w (w1.setCell ⟨hb, 0, none⟩ (.slice (some ⟨g, 0, none⟩) c c)) ∧ (w1.setCell ⟨hb, 0, none⟩ (.slice (some ⟨g, 0, none⟩) c c)).rowIs g 35 c F ∧ ∀ b T n G, T ≠ 35 → T ≠ 53 → w.rowIs b T n G → (w1.setCell ⟨hb, 0, none⟩ (.slice (some ⟨g, 0, none⟩) c c)).rowIs b T n G := by
    intro ga q0 q1 q2 q3 q4 q5 q6 q7 w1 g c F hu hg hr hc
    have h1 := hu.row q1 h.h
    have hgh : g ≠ hb := row_ne hr h1 (by decide)
    have hr' := hr.setOther (a := ⟨hb, 0, none⟩) hgh (.slice (some ⟨g, 0, none⟩) c c)
    have u2 : But hb w1 (w1.setCell ⟨hb, 0, none⟩ (.slice (some ⟨g, 0, none⟩) c c)) := But.self _ _ _
    have hgi : ∀ j, j < lw → g ≠ gi j := fun j hj => by
      rcases hg with rfl | hg
      · exact (q6 j hj).symm
      · have := (h.d.row j hj).lt; omega
    have b1 := h.b.but hu q2
    have s1 := h.s.but hu q3
    have r1 := h.r.but hu q4
    have d1 := h.d.keep2 hu q5 q6
    refine ⟨h1, ⟨Hd.set0 h1 _, h.lo, .inr ⟨g, c, F, rfl, by rw [Nat.mul_one]; exact hr', hc, hg.elim (fun e => by rw [e]; exact q0) (fun k => hz _ k), by rintro ⟨j, hj, e⟩; exact hgi j hj e⟩, ?_, s1.but u2 (s1.ne h1 (by decide)), r1.but u2 (r1.ne h1 (by decide)), d1.setH h1 (by decide) (by decide) _, h.dl, h.dg⟩, (((BP.refl h0 w).trans (BP.but hu) fun _ _ e => by rw [e]; exact q0).set (.inl h.lo) _), hr', fun b T n G t1 t2 hG => by
      have k1 := hu.row (q7 b T n G t1 hG) hG
      exact k1.setOther (a := ⟨hb, 0, none⟩) (row_ne k1 h1 t2) _⟩
    refine (b1.but u2 (b1.ne h1 (by decide))).mono ?_
    rintro b co e (⟨co', e'⟩ | hx)
    · exfalso
      injection e' with e'; injection e' with e'; injection e' with e'; subst e'
      rcases hg with rfl | hg
      · exact q2 _ e
      · exact h.b.new hg _ e
    · exact .inr hx
  rcases h.a with rfl | ⟨g0, co, f, rfl, h1, h2, h3, h4⟩
  · exact ⟨w.heap.size, .inl rfl, key _ (hz _ (Nat.le_refl _)) (by have := h.h.lt; omega) (h.b.new (Nat.le_refl _)) (h.s.new (Nat.le_refl _)) (h.r.new (Nat.le_refl _)) (fun T n F k => by have := k.lt; omega) (fun j hj => by have := (h.d.row j hj).lt; omega) fun b T n G _ hG => by have := hG.lt; omega⟩
  · rw [Nat.mul_one] at h1
    refine ⟨g0, .inr ⟨co, f, rfl, h1, h2⟩, key _ h3 (row_ne h.h h1 (by decide)) ?_ (h.s.ne h1 (by decide)) (h.r.ne h1 (by decide)) ?_ (fun j hj e => h4 ⟨j, hj, e.symm⟩) fun b T n G t1 hG => row_ne hG h1 t1⟩
    · rintro co' rfl
      rcases h.b with e | ⟨b, co, f, e, k1, k2, k3, k4⟩
      · injection e with e; cases e
      · injection e with e; injection e with e; injection e with e; subst e
        exact k4 (.inl ⟨_, rfl⟩)
    · intro T n F k hT
      subst hT
      exact row_ne k h1 (by decide) rfl
/-- filled of h.b. -/
theorem Hq.fillB {ga ca : Nat} (h : Hq w h0 hb (.slice (some ⟨ga, 0, none⟩) ca ca) vb vs vw vr gw lw gi ci ff) (hz : ∀ b, w.heap.size ≤ b → h0 b) : ∃ gb, Om w 35 vb gb ∧ ∀ w1 g c F, But gb w w1 → (g = gb ∨ w.heap.size ≤ g) → w1.rowIs g 35 c F → c ≤ maxLen →
    Hd w1 hb (.slice (some ⟨ga, 0, none⟩) ca ca) vb vs vw vr ∧ Hq (w1.setCell ⟨hb, 1, none⟩ (.slice (some ⟨g, 0, none⟩) c c)) h0 hb (.slice (some ⟨ga, 0, none⟩) ca ca) (.slice (some ⟨g, 0, none⟩) c c) vs vw vr gw lw gi ci ff ∧ BP h0 w (w1.setCell ⟨hb, 1, none⟩ (.slice (some ⟨g, 0, none⟩) c c)) ∧ (w1.setCell ⟨hb, 1, none⟩ (.slice (some ⟨g, 0, none⟩) c c)).rowIs g 35 c F ∧ (∀ G, w.rowIs ga 35 ca G → (w1.setCell ⟨hb, 1, none⟩ (.slice (some ⟨g, 0, none⟩) c c)).rowIs ga 35 ca G) ∧ ∀ b T n G, T ≠ 35 → T ≠ 53 → w.rowIs b T n G → (w1.setCell ⟨hb, 1, none⟩ (.slice (some ⟨g, 0, none⟩) c c)).rowIs b T n G := by
  have ha : ∃ fa, w.rowIs ga 35 ca fa ∧ h0 ga ∧ ca ≤ maxLen ∧ ¬ ∃ j, j < lw ∧ ga = gi j := by
    rcases h.a with e | ⟨b, co, f, e, k1, k2, k3, k4⟩
    · injection e with e; cases e
    · injection e with e e1 e2; injection e with e; injection e with e; subst e; subst e1
      rw [Nat.mul_one] at k1
      exact ⟨f, k1, k3, k2, k4⟩
  obtain ⟨fa, a1, a2, a3, a4⟩ := ha
  have key : ∀ gb, h0 gb → hb ≠ gb → ga ≠ gb → (∀ co, vs ≠ .slice (some ⟨gb, 0, none⟩) co co) → (∀ co, vr ≠ .slice (some ⟨gb, 0, none⟩) co co) → (∀ T n F, w.rowIs gb T n F → T ≠ 25) → (∀ j, j < lw → gi j ≠ gb) → (∀ b T n G, T ≠ 35 → w.rowIs b T n G → b ≠ gb) →
      ∀ w1 g c F, But gb w w1 → (g = gb ∨ w.heap.size ≤ g) → w1.rowIs g 35 c F → c ≤ maxLen → Hd w1 hb (.slice (some ⟨ga, 0, none⟩) ca ca) vb vs vw vr ∧ Hq (w1.setCell ⟨hb, 1, none⟩ (.slice (some ⟨g, 0, none⟩) c c)) h0 hb (.slice (some ⟨ga, 0, none⟩) ca ca) (.slice (some ⟨g, 0, none⟩) c c) vs vw vr gw lw gi ci ff ∧ BP h0 w (w1.setCell ⟨hb, 1, none⟩ (.slice (some ⟨g, 0, none⟩) c c)) ∧ (w1.setCell ⟨hb, 1, none⟩ (.slice (some ⟨g, 0, none⟩) c c)).rowIs g 35 c F ∧ (∀ G, w.rowIs ga 35 ca G → (w1.setCell ⟨hb, 1, none⟩ (.slice (some ⟨g, 0, none⟩) c c)).rowIs ga 35 ca G) ∧ ∀ b T n G, T ≠ 35 → T ≠ 53 → w.rowIs b T n G → (w1.setCell ⟨hb, 1, none⟩ (.slice (some ⟨g, 0, none⟩) c c)).rowIs b T n G := by
    intro gb q0 q1 q2 q3 q4 q5 q6 q7 w1 g c F hu hg hr hc
    have h1 := hu.row q1 h.h
    have hgh : g ≠ hb := row_ne hr h1 (by decide)
    have hr' := hr.setOther (a := ⟨hb, 1, none⟩) hgh (.slice (some ⟨g, 0, none⟩) c c)
    have u2 : But hb w1 (w1.setCell ⟨hb, 1, none⟩ (.slice (some ⟨g, 0, none⟩) c c)) := But.self _ _ _
    have hgi : ∀ j, j < lw → g ≠ gi j := fun j hj => by
      rcases hg with rfl | hg
      · exact (q6 j hj).symm
      · have := (h.d.row j hj).lt; omega
    have hga : g ≠ ga := by
      rcases hg with rfl | hg
      · exact q2.symm
      · have := a1.lt; omega
    have s1 := h.s.but hu q3
    have r1 := h.r.but hu q4
    have d1 := h.d.keep2 hu q5 q6
    have ka : ∀ G, w.rowIs ga 35 ca G → (w1.setCell ⟨hb, 1, none⟩ (.slice (some ⟨g, 0, none⟩) c c)).rowIs ga 35 ca G := fun G hG => by
      have k1 := hu.row q2 hG
      exact k1.setOther (a := ⟨hb, 1, none⟩) (row_ne k1 h1 (by decide)) _
    refine ⟨h1, ⟨Hd.set1 h1 _, h.lo, .inr ⟨ga, ca, fa, rfl, by rw [Nat.mul_one]; exact ka fa a1, a3, a2, a4⟩, .inr ⟨g, c, F, rfl, by rw [Nat.mul_one]; exact hr', hc, hg.elim (fun e => by rw [e]; exact q0) (fun k => hz _ k), ?_⟩, s1.but u2 (s1.ne h1 (by decide)), r1.but u2 (r1.ne h1 (by decide)), d1.setH h1 (by decide) (by decide) _, h.dl, h.dg⟩, (((BP.refl h0 w).trans (BP.but hu) fun _ _ e => by rw [e]; exact q0).set (.inl h.lo) _), hr', ka, fun b T n G t1 t2 hG => by
      have k1 := hu.row (q7 b T n G t1 hG) hG
      exact k1.setOther (a := ⟨hb, 1, none⟩) (row_ne k1 h1 t2) _⟩
    rintro (⟨co', e'⟩ | ⟨j, hj, e⟩)
    · injection e' with e'; injection e' with e'; injection e' with e'
      exact hga e'.symm
    · exact hgi j hj e
  rcases h.b with rfl | ⟨g0, co, f, rfl, h1, h2, h3, h4⟩
  · exact ⟨w.heap.size, .inl rfl, key _ (hz _ (Nat.le_refl _)) (by have := h.h.lt; omega) (by have := a1.lt; omega) (h.s.new (Nat.le_refl _)) (h.r.new (Nat.le_refl _)) (fun T n F k => by have := k.lt; omega) (fun j hj => by have := (h.d.row j hj).lt; omega) fun b T n G _ hG => by have := hG.lt; omega⟩
  · rw [Nat.mul_one] at h1
    refine ⟨g0, .inr ⟨co, f, rfl, h1, h2⟩, key _ h3 (row_ne h.h h1 (by decide)) (fun e => h4 (.inl ⟨ca, by rw [e]⟩)) (h.s.ne h1 (by decide)) (h.r.ne h1 (by decide)) ?_ (fun j hj e => h4 (.inr ⟨j, hj, e.symm⟩)) fun b T n G t1 hG => row_ne hG h1 t1⟩
    intro T n F k hT
    subst hT
    exact row_ne k h1 (by decide) rfl
/-- numbers. -/
theorem Hq.fillS (h : Hq w h0 hb va vb vs vw vr gw lw gi ci ff) (hz : ∀ b, w.heap.size ≤ b → h0 b) : ∃ gs, Om w 24 vs gs ∧ hb ≠ gs ∧ ∀ w1 g c F, BS [gs, hb] w w1 → (g = gs ∨ w.heap.size ≤ g) → w1.rowIs g 24 c F → c ≤ maxLen → Hd w1 hb va vb (.slice (some ⟨g, 0, none⟩) c c) vw vr →
    Hq w1 h0 hb va vb (.slice (some ⟨g, 0, none⟩) c c) vw vr gw lw gi ci ff ∧ BP h0 w w1 ∧ ∀ b T n G, T ≠ 24 → T ≠ 53 → w.rowIs b T n G → w1.rowIs b T n G := by
  have key : ∀ gs, h0 gs → hb ≠ gs → (∀ b T n G, T ≠ 24 → w.rowIs b T n G → b ≠ gs) →
      ∀ w1 g c F, BS [gs, hb] w w1 → (g = gs ∨ w.heap.size ≤ g) → w1.rowIs g 24 c F → c ≤ maxLen → Hd w1 hb va vb (.slice (some ⟨g, 0, none⟩) c c) vw vr →
    Hq w1 h0 hb va vb (.slice (some ⟨g, 0, none⟩) c c) vw vr gw lw gi ci ff ∧ BP h0 w w1 ∧ ∀ b T n G, T ≠ 24 → T ≠ 53 → w.rowIs b T n G → w1.rowIs b T n G := by
    intro gs q0 q1 q7 w1 g c F hu hg hr hc hh
    have ot : ∀ b T n G, T ≠ 24 → T ≠ 53 → w.rowIs b T n G → w1.rowIs b T n G := fun b T n G t1 t2 hG =>
      hu.row (by simp; exact ⟨q7 b T n G t1 hG, row_ne hG h.h t2⟩) hG
    have pl : ∀ {T k X v}, T ≠ 24 → T ≠ 53 → Pl w h0 T k X v → Pl w1 h0 T k X v := fun {T k X v} t1 t2 hp => by
      rcases hp with e | ⟨b, co, f, e, h1, h2, h3, h4⟩
      · exact .inl e
      · exact .inr ⟨b, co, f, e, ot b T _ f t1 t2 h1, h2, h3, h4⟩
    refine ⟨⟨hh, h.lo, pl (by decide) (by decide) h.a, pl (by decide) (by decide) h.b, .inr ⟨g, c, F, rfl, by rw [Nat.mul_one]; exact hr, hc, hg.elim (fun e => by rw [e]; exact q0) (fun k => hz _ k), fun k => k⟩, pl (by decide) (by decide) h.r, ⟨?_, fun j hj => ot _ _ _ _ (by decide) (by decide) (h.d.row j hj), h.d.max, h.d.inj⟩, h.dl, h.dg⟩, ⟨hu.os, hu.tape, hu.output, hu.size, fun k hk hn => hu.block k hk ?_⟩, ot⟩
    · rcases h.d.val with k | ⟨cw, f, e, k1, k2, k3, k4⟩
      · exact .inl k
      · exact .inr ⟨cw, f, e, k1, k2, ot _ _ _ _ (by decide) (by decide) k3, k4⟩
    · simp
      constructor
      · rintro rfl; exact hn q0
      · rintro rfl; exact hn h.lo
  rcases h.s with rfl | ⟨g0, co, f, rfl, h1, h2, h3, h4⟩
  · exact ⟨w.heap.size, .inl rfl, by have := h.h.lt; omega, key _ (hz _ (Nat.le_refl _)) (by have := h.h.lt; omega) fun b T n G _ hG => by have := hG.lt; omega⟩
  · rw [Nat.mul_one] at h1
    exact ⟨g0, .inr ⟨co, f, rfl, h1, h2⟩, row_ne h.h h1 (by decide), key _ h3 (row_ne h.h h1 (by decide)) fun b T n G t1 hG => row_ne hG h1 t1⟩
/-- list. -/
theorem Hq.fillL {ga ca gb cb gs cs : Nat} (h : Hq w h0 hb (.slice (some ⟨ga, 0, none⟩) ca ca) (.slice (some ⟨gb, 0, none⟩) cb cb) (.slice (some ⟨gs, 0, none⟩) cs cs) vw vr gw lw gi ci ff) (hz : ∀ b, w.heap.size ≤ b → h0 b) :
    ∃ gw gr, Wd w vw gw lw gi ci ff ∧ Or2 w vr gr ∧ gr ≠ hb ∧ gw ≠ gr ∧ (∀ j, j < lw → gi j ≠ gr) ∧ (∀ b, Lb hb gw gr lw gi b → h0 b) ∧
      ∀ w1 g c J n m N vw' gw' lw' gi' ci' ff', J + 1 ≤ c → c ≤ maxLen → Ls w w1 (Lb hb gw gr lw gi) hb g c J n m N (lsf n m J gi' ci') (.slice (some ⟨ga, 0, none⟩) ca ca) (.slice (some ⟨gb, 0, none⟩) cb cb) (.slice (some ⟨gs, 0, none⟩) cs cs) (.slice (some ⟨g, 0, none⟩) c c) c vw' gw' lw' gi' ci' ff' →
        ∀ fa fb fs, w.rowIs ga 35 ca fa → w.rowIs gb 35 cb fb → w.rowIs gs 24 cs fs → Hk w1 h0 hb ga ca gb cb gs cs g c vw' gw' lw' gi' ci' fa fb fs (lsf n m J gi' ci') ff' ∧ BP h0 w w1 ∧
          ∀ b T n G, T ≠ 35 → T ≠ 53 → T ≠ 25 → (T = 27 → ∀ co, vr ≠ .slice (some ⟨b, 0, none⟩) co co) → w.rowIs b T n G → w1.rowIs b T n G := by
  have ha : h0 ga ∧ ca ≤ maxLen ∧ ∀ j, j < lw → ga ≠ gi j := by
    rcases h.a with e | ⟨b, co, f, e, k1, k2, k3, k4⟩
    · injection e with e; cases e
    · injection e with e e1 e2; injection e with e; injection e with e; subst e; subst e1
      exact ⟨k3, k2, fun j hj e => k4 ⟨j, hj, e⟩⟩
  have hbb : h0 gb ∧ cb ≤ maxLen ∧ ga ≠ gb ∧ ∀ j, j < lw → gb ≠ gi j := by
    rcases h.b with e | ⟨b, co, f, e, k1, k2, k3, k4⟩
    · injection e with e; cases e
    · injection e with e e1 e2; injection e with e; injection e with e; subst e; subst e1
      exact ⟨k3, k2, fun e => k4 (.inl ⟨ca, by rw [e]⟩), fun j hj e => k4 (.inr ⟨j, hj, e⟩)⟩
  have hss : h0 gs ∧ cs ≤ maxLen := by
    rcases h.s with e | ⟨b, co, f, e, k1, k2, k3, k4⟩
    · injection e with e; cases e
    · injection e with e e1 e2; injection e with e; injection e with e; subst e; subst e1
      exact ⟨k3, k2⟩
  obtain ⟨gr, r1, r2, r3, r4, r5⟩ : ∃ gr, Or2 w vr gr ∧ h0 gr ∧ (gr = w.heap.size ∨ ∃ n F, w.rowIs gr 27 n F) ∧ (gr ≠ hb) ∧ ((∃ co, vr = .slice (some ⟨gr, 0, none⟩) co co) ∨ gr = w.heap.size) := by
    rcases h.r with rfl | ⟨g0, co, f, rfl, k1, k2, k3, k4⟩
    · exact ⟨w.heap.size, .inl rfl, hz _ (Nat.le_refl _), .inl rfl, by have := h.h.lt; omega, .inr rfl⟩
    · exact ⟨g0, .inr ⟨co, f, rfl, k1, k2⟩, k3, .inr ⟨_, _, k1⟩, row_ne k1 h.h (by decide), .inl ⟨_, rfl⟩⟩
  obtain ⟨gw2, d1, d2, d3⟩ : ∃ gw, Wd w vw gw lw gi ci ff ∧ h0 gw ∧ (gw = w.heap.size + 1 ∨ ∃ n F, w.rowIs gw 25 n F) := by
    rcases h.d.val with ⟨e, e0⟩ | ⟨cw, f, e, k1, k2, k3, k4⟩
    · exact ⟨w.heap.size + 1, ⟨.inl ⟨e, e0⟩, h.d.row, h.d.max, h.d.inj⟩, hz _ (by omega), .inl rfl⟩
    · refine ⟨gw, h.d, ?_, .inr ⟨_, _, k3⟩⟩
      rcases h.dg.1 with e2 | e2
      · rw [e] at e2; injection e2 with e2; cases e2
      · exact e2
  have wr : gw2 ≠ gr := by
    rcases d3 with d3 | ⟨n, F, d3⟩ <;> rcases r3 with r3 | ⟨n', F', r3⟩
    · omega
    · have := r3.lt; omega
    · have := d3.lt; omega
    · exact row_ne d3 r3 (by decide)
  have ir : ∀ j, j < lw → gi j ≠ gr := fun j hj => by
    rcases r3 with r3 | ⟨n', F', r3⟩
    · have := (h.d.row j hj).lt; omega
    · exact row_ne (h.d.row j hj) r3 (by decide)
  have lb : ∀ b, Lb hb gw2 gr lw gi b → h0 b := by
    rintro b (rfl | rfl | rfl | ⟨j, hj, rfl⟩)
    · exact h.lo
    · exact d2
    · exact r2
    · exact h.dg.2 j hj
  have out : ∀ b T n G, w.rowIs b T n G → T ≠ 53 → T ≠ 25 → (T = 27 → ∀ co, vr ≠ .slice (some ⟨b, 0, none⟩) co co) → (T = 35 → ∀ j, j < lw → b ≠ gi j) → ¬ Lb hb gw2 gr lw gi b := by
    rintro b T n G hG t2 t3 t4 t5 (e | e | e | ⟨j, hj, e⟩)
    · subst e; exact row_ne hG h.h t2 rfl
    · subst e
      rcases d3 with d3 | ⟨n', F', d3⟩
      · have := hG.lt; omega
      · exact row_ne hG d3 t3 rfl
    · subst e
      rcases r3 with r3 | ⟨n', F', r3⟩
      · have := hG.lt; omega
      · by_cases eT : T = 27
        · rcases r5 with ⟨co, r5⟩ | r5
          · exact t4 eT co r5
          · have := hG.lt; omega
        · exact row_ne hG r3 eT rfl
    · by_cases eT : T = 35
      · exact t5 eT j hj e
      · subst e; exact row_ne hG (h.d.row j hj) eT rfl
  refine ⟨gw2, gr, d1, r1, r4, wr, ir, lb, ?_⟩
  intro w1 g c J n m N vw' gw' lw' gi' ci' ff' hJ hc hl fa fb fs ka kb ks
  have oa := out _ _ _ _ ka (by decide) (by decide) (fun e => absurd e (by decide)) (fun _ => ha.2.2)
  have ob := out _ _ _ _ kb (by decide) (by decide) (fun e => absurd e (by decide)) (fun _ => hbb.2.2.2)
  have os := out _ _ _ _ ks (by decide) (by decide) (fun e => absurd e (by decide)) (fun e => absurd e (by decide))
  have up : ∀ b, Lb hb gw2 gr lw gi b ∨ w.heap.size ≤ b → h0 b := fun b hb' => by
    rcases hb' with k | k
    · exact lb b k
    · exact hz b k
  refine ⟨⟨hl.h, hl.bp.row oa ka, hl.bp.row ob kb, hl.bp.row os ks, hl.x.congr fun p hp => by unfold lsk; rw [if_pos (by omega)], hl.d, ⟨ha.2.1, hbb.2.1, hss.2, hc, hl.ll⟩, ⟨hbb.2.2.1, fun j hj e => ?_, fun j hj e => ?_⟩, ⟨h.lo, ha.1, hbb.1, hss.1, up _ hl.gs.1, .inr (up _ hl.gs.2.1), fun j hj => up _ (hl.gs.2.2 j hj)⟩⟩, ⟨hl.bp.os, hl.bp.tape, hl.bp.output, hl.bp.size, fun k hk hn => hl.bp.block k hk fun hx => hn (lb k hx)⟩, fun b T n G t1 t2 t3 t4 hG => hl.bp.row (out b T n G hG t2 t3 t4 fun e => absurd e t1) hG⟩
  · rcases hl.gs.2.2 j hj with k | k
    · rw [← e] at k; exact oa k
    · have := ka.lt; omega
  · rcases hl.gs.2.2 j hj with k | k
    · rw [← e] at k; exact ob k
    · have := kb.lt; omega
end
end Go.Proofs.Yteghelmbibpohaa
/- told. -/
namespace Go.Proofs.Yteghelmbibpohaa
open Go.RowKit

theorem wd_nil (w : World) (gw : Nat) (gi ci : Nat → Nat) (ff : Nat → Nat → Value) : Wd w (.slice none 0 0) gw 0 gi ci ff :=
  ⟨.inl ⟨rfl, rfl⟩, fun j hj => absurd hj (by omega), fun j hj => absurd hj (by omega), fun j k hj => absurd hj (by omega)⟩
theorem Hi.q {w : World} {h0 : Nat → Prop} {hb : Nat} (h : Hi w h0 hb) : ∃ va vb vs vw vr gw lw gi ci ff, Hq w h0 hb va vb vs vw vr gw lw gi ci ff := by
  rcases h with ⟨h, h1⟩ | ⟨ga, ca, gb, cb, gs, cs, gr, cr, vw, gw, lw, gi, ci, fa, fb, fs, fr, ff, h⟩
  · exact ⟨_, _, _, _, _, 0, 0, fun _ => 0, fun _ => 0, fun _ _ => .bool false, h, h1, .inl rfl, .inl rfl, .inl rfl, .inl rfl, wd_nil _ _ _ _ _, by omega, .inl rfl, fun j hj => absurd hj (by omega)⟩
  · refine ⟨_, _, _, _, _, _, _, _, _, _, h.h, h.lo.1, .inr ⟨_, _, _, rfl, by rw [Nat.mul_one]; exact h.a, h.mx.1, h.lo.2.1, ?_⟩, .inr ⟨_, _, _, rfl, by rw [Nat.mul_one]; exact h.b, h.mx.2.1, h.lo.2.2.1, ?_⟩, .inr ⟨_, _, _, rfl, by rw [Nat.mul_one]; exact h.s, h.mx.2.2.1, h.lo.2.2.2.1, fun k => k⟩, .inr ⟨_, _, _, rfl, h.r, h.mx.2.2.2.1, h.lo.2.2.2.2.1, fun k => k⟩, h.d, h.mx.2.2.2.2, h.lo.2.2.2.2.2.1, h.lo.2.2.2.2.2.2⟩
    · rintro ⟨j, hj, e⟩; exact h.ap.2.1 j hj e
    · rintro (⟨co, e⟩ | ⟨j, hj, e⟩)
      · injection e with e; injection e with e; injection e with e; exact h.ap.1 e
      · exact h.ap.2.2 j hj e
/-- told's own cells. -/
structure Lc (w wx : World) (z : Nat) (h0 : Nat → Prop) (kd n1 : Int) (ao : Option Addr) (m1 ka : Nat) (n2 : Int) (bo : Option Addr) (m2 kb : Nat) (lo : Option Addr) (ll kl : Nat) (ro : Option Addr) (J kr : Nat) (fr to_ : Int) : Prop where
  o : wx.rowIs z 55 9 (opf kd n1 ao m1 ka n2 bo m2 kb lo ll kl ro J kr fr to_)
  t : wx.rowIs (z + 1) 57 6 tz
  p : BP h0 w wx
  z : z + 2 ≤ wx.heap.size
  op : ∀ b n G, w.rowIs b 55 n G → wx.rowIs b 55 n G
theorem Lc.step {w wx wy : World} {z : Nat} {h0 : Nat → Prop} {kd n1 : Int} {ao : Option Addr} {m1 ka : Nat} {n2 : Int} {bo : Option Addr} {m2 kb : Nat} {lo : Option Addr} {ll kl : Nat} {ro : Option Addr} {J kr : Nat} {fr to_ : Int} (h : Lc w wx z h0 kd n1 ao m1 ka n2 bo m2 kb lo ll kl ro J kr fr to_)
    (hp : BP h0 wx wy) (ho : ∀ b T n G, T = 55 ∨ T = 57 → wx.rowIs b T n G → wy.rowIs b T n G) : Lc w wy z h0 kd n1 ao m1 ka n2 bo m2 kb lo ll kl ro J kr fr to_ :=
  ⟨ho _ _ _ _ (.inl rfl) h.o, ho _ _ _ _ (.inr rfl) h.t, h.p.trans hp fun _ _ k => k, Nat.le_trans h.z hp.size, fun b n G k => ho _ _ _ _ (.inl rfl) (h.op b n G k)⟩
theorem Lc.below {w wx wy : World} {z : Nat} {h0 : Nat → Prop} {kd n1 : Int} {ao : Option Addr} {m1 ka : Nat} {n2 : Int} {bo : Option Addr} {m2 kb : Nat} {lo : Option Addr} {ll kl : Nat} {ro : Option Addr} {J kr : Nat} {fr to_ : Int} (h : Lc w wx z h0 kd n1 ao m1 ka n2 bo m2 kb lo ll kl ro J kr fr to_)
    (hp : Below wx.heap.size wx wy) : Lc w wy z h0 kd n1 ao m1 ka n2 bo m2 kb lo ll kl ro J kr fr to_ := h.step (BP.bel hp) fun _ _ _ _ _ k => keepr hp k
section
variable {w w1 : World} {S : Nat → Prop} {o : Oq} {h0 : Nat → Prop} {hb ga ca gb cb gs cs gr cr gw lw : Nat} {vw : Value} {gi ci : Nat → Nat} {fa fb fs fr f : Nat → Value} {ff : Nat → Nat → Value}
theorem Hk.narrow (h : Hk w h0 hb ga ca gb cb gs cs gr cr vw gw lw gi ci fa fb fs fr ff) : Hk w (fun b => h0 b ∧ b < w.heap.size ∧ ∀ n F, ¬ w.rowIs b 55 n F ∧ ¬ w.rowIs b 57 n F) hb ga ca gb cb gs cs gr cr vw gw lw gi ci fa fb fs fr ff := by
  have no : ∀ {b T n F}, w.rowIs b T n F → T ≠ 55 → T ≠ 57 → ∀ n F, ¬ w.rowIs b 55 n F ∧ ¬ w.rowIs b 57 n F := fun hr t1 t2 n F => ⟨fun k => row_ne hr k t1 rfl, fun k => row_ne hr k t2 rfl⟩
  exact ⟨h.h, h.a, h.b, h.s, h.r, h.d, h.mx, h.ap, ⟨h.lo.1, h.h.lt, no h.h (by decide) (by decide)⟩, ⟨h.lo.2.1, h.a.lt, no h.a (by decide) (by decide)⟩, ⟨h.lo.2.2.1, h.b.lt, no h.b (by decide) (by decide)⟩, ⟨h.lo.2.2.2.1, h.s.lt, no h.s (by decide) (by decide)⟩, ⟨h.lo.2.2.2.2.1, h.r.lt, no h.r (by decide) (by decide)⟩, by
    rcases h.d.val with ⟨e, _⟩ | ⟨cw, f, e, k1, k2, k3, k4⟩
    · exact .inl e
    · rcases h.lo.2.2.2.2.2.1 with e2 | e2
      · exact .inl e2
      · exact .inr ⟨e2, k3.lt, no k3 (by decide) (by decide)⟩, fun j hj => ⟨h.lo.2.2.2.2.2.2 j hj, (h.d.row j hj).lt, no (h.d.row j hj) (by decide) (by decide)⟩⟩
theorem Hk.mono {T : Nat → Prop} (h : Hk w S hb ga ca gb cb gs cs gr cr vw gw lw gi ci fa fb fs fr ff) (hT : ∀ b, S b → T b) : Hk w T hb ga ca gb cb gs cs gr cr vw gw lw gi ci fa fb fs fr ff :=
  ⟨h.h, h.a, h.b, h.s, h.r, h.d, h.mx, h.ap, hT _ h.lo.1, hT _ h.lo.2.1, hT _ h.lo.2.2.1, hT _ h.lo.2.2.2.1, hT _ h.lo.2.2.2.2.1, h.lo.2.2.2.2.2.1.imp id (hT _), fun j hj => hT _ (h.lo.2.2.2.2.2.2 j hj)⟩
theorem Hi.mono {T : Nat → Prop} (h : Hi w S hb) (hT : ∀ b, S b → T b) : Hi w T hb := by
  rcases h with ⟨h, h1⟩ | ⟨ga, ca, gb, cb, gs, cs, gr, cr, vw, gw, lw, gi, ci, fa, fb, fs, fr, ff, h⟩
  · exact .inl ⟨h, hT _ h1⟩
  · exact .inr ⟨_, _, _, _, _, _, _, _, _, _, _, _, _, _, _, _, _, _, h.mono hT⟩
theorem Hi.bp {T : Nat → Prop} (h : Hi w S hb) (hu : BP T w w1) (hT : ∀ b, S b → ¬ T b) : Hi w1 S hb := by
  rcases h with ⟨h, h1⟩ | ⟨ga, ca, gb, cb, gs, cs, gr, cr, vw, gw, lw, gi, ci, fa, fb, fs, fr, ff, h⟩
  · exact .inl ⟨hu.row (hT _ h1) h, h1⟩
  · exact .inr ⟨_, _, _, _, _, _, _, _, _, _, _, _, _, _, _, _, _, _, h.bp hu hT⟩
theorem Hm.below (h : Hm w o S hb ga ca gb cb gs cs gr cr vw gw lw gi ci ff) (hu : Below w.heap.size w w1) : Hm w1 o S hb ga ca gb cb gs cs gr cr vw gw lw gi ci ff :=
  ⟨h.k.below hu, h.am, h.bm, h.sm, h.rm, h.dl, h.dn⟩
theorem Hm.bel {w2 : World} {z : Nat} (h : Hm w o S hb ga ca gb cb gs cs gr cr vw gw lw gi ci ff) (hu : Below w.heap.size w w1) (hb2 : BP (· = z) w1 w2) (hz : ∀ b, S b → b < z) : Hm w2 o S hb ga ca gb cb gs cs gr cr vw gw lw gi ci ff :=
  ⟨(h.k.below hu).bp hb2 fun b hS e => by have := hz b hS; omega, h.am, h.bm, h.sm, h.rm, h.dl, h.dn⟩
theorem Hm.rdA (h : Hm w o S hb ga ca gb cb gs cs gr cr vw gw lw gi ci ff) (hA : o.A < 2 ^ (64 * o.m1)) : Rd w (some ⟨ga, 0, none⟩) o.m1 o.A :=
  ⟨hA, fun _ => ⟨ga, rfl, fun k hk => by
    have c := h.k.a.cell (i := k) (by have := h.am; omega)
    rw [fwf, if_pos hk] at c
    exact c⟩⟩
theorem Hm.rdB (h : Hm w o S hb ga ca gb cb gs cs gr cr vw gw lw gi ci ff) (hB : o.B < 2 ^ (64 * o.m2)) : Rd w (some ⟨gb, 0, none⟩) o.m2 o.B :=
  ⟨hB, fun _ => ⟨gb, rfl, fun k hk => by
    have c := h.k.b.cell (i := k) (by have := h.bm; omega)
    rw [fwf, if_pos hk] at c
    exact c⟩⟩
theorem Hm.r8 (h : Hm w o S hb ga ca gb cb gs cs gr cr vw gw lw gi ci ff) : R8 w (some ⟨gs, 0, none⟩) o.l := fun k hk => ⟨gs, 0, rfl, by
  have c := h.k.s.cell (i := k) (by have := h.sm; omega)
  rw [nmf, if_pos hk] at c
  rw [Nat.zero_add]
  exact c⟩
theorem Hm.jo {w0 : World} {lo : Option Addr} {ad : Nat → Option Addr} {cp : Nat → Nat} (h : Hm w o S hb ga ca gb cb gs cs gr cr vw gw lw gi ci ff) (hj : Jo Ro w0 lo o.J o.n o.m o.N ad cp) : Jo Rd w (some ⟨gr, 0, none⟩) o.J o.n o.m o.N (fun j => some ⟨gi j, 0, none⟩) ci :=
  ⟨fun j hjJ => ⟨gr, 0, rfl, by
      have c := h.k.r.cell (i := j * 2) (by have := h.rm; omega)
      rw [lsf, if_pos (by omega), if_pos (by omega), show j * 2 / 2 = j by omega] at c
      rw [Nat.zero_add]
      exact c, by
      have c := h.k.r.cell (i := j * 2 + 1) (by have := h.rm; omega)
      rw [lsf, if_pos (by omega), if_neg (by omega), show (j * 2 + 1) / 2 = j by omega] at c
      rw [Nat.zero_add]
      exact c⟩, fun j hjJ => ⟨(hj.rd j hjJ).1, fun _ => ⟨gi j, rfl, fun k hk => by
    obtain ⟨e, h2⟩ := h.dn j hjJ
    have c := (h.k.d.row j (by have := h.dl; omega)).cell (i := k) (by omega)
    rw [e, fwf, if_pos hk] at c
    exact c⟩⟩⟩
end
theorem Ob.mono {S T : Nat → Prop} {o : Oq} {ao bo lo ro : Option Addr} {ad : Nat → Option Addr} (h : Ob S o ao bo lo ro ad) (hT : ∀ b, T b → S b) : Ob T o ao bo lo ro ad :=
  ⟨fun p hp hm hx => h.a p hp hm (hT _ hx), fun p hp hm hx => h.b p hp hm (hT _ hx), fun p hp hm hx => h.l p hp hm (hT _ hx), fun p hp hm hx => h.r p hp hm (hT _ hx), fun j hj p hp hm hx => h.d j hj p hp hm (hT _ hx)⟩
theorem Lc.bel {w wx wy wz : World} {h0 : Nat → Prop} {y : Nat} {kd n1 : Int} {ao : Option Addr} {m1 ka : Nat} {n2 : Int} {bo : Option Addr} {m2 kb : Nat} {lo : Option Addr} {ll kl : Nat} {ro : Option Addr} {J kr : Nat} {fr to_ : Int} (h : Lc w wx w.heap.size h0 kd n1 ao m1 ka n2 bo m2 kb lo ll kl ro J kr fr to_)
    (hp : Below wx.heap.size wx wy) (hu : BP (· = y) wy wz) (hy : w.heap.size + 2 ≤ y) : Lc w wz w.heap.size h0 kd n1 ao m1 ka n2 bo m2 kb lo ll kl ro J kr fr to_ := by
  have h1 := h.below hp
  exact ⟨hu.row (by omega) h1.o, hu.row (by omega) h1.t, h1.p.trans hu fun b hb' e => by omega, Nat.le_trans h1.z hu.size, fun b n G k => hu.row (by have := k.lt; omega) (h1.op b n G k)⟩
/-- The six cells of an answer. -/
def tdf (n : Int) (ao : Option Addr) (m c : Nat) (so : Option Addr) (sl sc : Nat) (k mask e : Int) : Nat → Value := fun j =>
  if j = 0 then .int .i64 n else if j = 1 then .slice ao m c else if j = 2 then .slice so sl sc else if j = 3 then .int .i64 k else if j = 4 then .int .u64 mask else .int .i64 e
theorem tdf_cells {w : World} {b t : Nat} {n : Int} {ao : Option Addr} {m c : Nat} {so : Option Addr} {sl sc : Nat} {k mask e : Int} (h : w.rowIs b t 6 (tdf n ao m c so sl sc k mask e)) : w.cell? ⟨b, 0, none⟩ = some (.int .i64 n) ∧ w.cell? ⟨b, 1, none⟩ = some (.slice ao m c) ∧ w.cell? ⟨b, 2, none⟩ = some (.slice so sl sc) ∧ w.cell? ⟨b, 3, none⟩ = some (.int .i64 k) ∧ w.cell? ⟨b, 4, none⟩ = some (.int .u64 mask) ∧ w.cell? ⟨b, 5, none⟩ = some (.int .i64 e) :=
  ⟨h.cell (by omega), h.cell (by omega), h.cell (by omega), h.cell (by omega), h.cell (by omega), h.cell (by omega)⟩
theorem Ro.far {w w' : World} {ao : Option Addr} {m N z : Nat} (h : Ro w ao m N) (hu : BP (· = z) w w') (hs : ∀ p, ao = some p → z < p.block) : Ro w' ao m N := h.bp hu fun p hp _ e => by have := hs p hp; omega
theorem Rs.bp {S : Nat → Prop} {w w' : World} {ao : Option Addr} {m : Nat} {f : Nat → Value} (h : Rs w ao m f) (hb : BP S w w') (hs : ∀ p, ao = some p → ¬ S p.block) : Rs w' ao m f := fun k hk => by
  obtain ⟨g, o, e, c⟩ := h k hk
  exact ⟨g, o, e, hb.cell (hs ⟨g, o, none⟩ e) c⟩
theorem Rs.far {w w' : World} {ao : Option Addr} {m z : Nat} {f : Nat → Value} (h : Rs w ao m f) (hu : BP (· = z) w w') (hs : ∀ p, ao = some p → z < p.block) : Rs w' ao m f := h.bp hu fun p hp e => by have := hs p hp; omega
/-- told's memory behind the call. -/
structure Tk (w X : World) (o : Oq) (S : Nat → Prop) (z : Nat) (h0 : Nat → Prop) (hb ga ca gb cb gs cs gr cr : Nat) (vw : Value) (gw lw : Nat) (gi ci : Nat → Nat) (ff : Nat → Nat → Value) (ll kl kr : Nat) (ao : Option Addr) (ka : Nat) (bo : Option Addr) (kb : Nat) (lo ro : Option Addr) (t : TS) (xo : Option Addr) (xc : Nat) (so : Option Addr) (sc : Nat) : Prop where
  hm : Hm X o S hb ga ca gb cb gs cs gr cr vw gw lw gi ci ff
  lc : Lc w X w.heap.size h0 o.kd o.n1 ao o.m1 ka o.n2 bo o.m2 kb lo ll kl ro o.J kr o.fr o.to_
  row : X.rowIs z 57 6 (tdf t.n xo t.m xc so t.l sc t.k t.mask t.e)
  r : Ro X xo t.m t.N
  rm : t.m ≤ 262144
  s : Rs X so t.l (fun k => .int .i8 (t.f k))
  sm : t.l ≤ 16777216
  rf : ∀ p, xo = some p → z < p.block
  sf : ∀ p, so = some p → z < p.block
  ow : Own X 35 xo t.m xc (wf t.N)
  os : Own X 24 so t.l sc (fun k => .int .i8 (t.f k))
theorem Tk.nz {w X : World} {o : Oq} {S : Nat → Prop} {z : Nat} {h0 : Nat → Prop} {hb ga ca gb cb gs cs gr cr : Nat} {vw : Value} {gw lw : Nat} {gi ci : Nat → Nat} {ff : Nat → Nat → Value} {ll kl kr : Nat} {ao : Option Addr} {ka : Nat} {bo : Option Addr} {kb : Nat} {lo ro : Option Addr} {t : TS} {xo : Option Addr} {xc : Nat} {so : Option Addr} {sc : Nat}
    (h : Tk w X o S z h0 hb ga ca gb cb gs cs gr cr vw gw lw gi ci ff ll kl kr ao ka bo kb lo ro t xo xc so sc) (hS : ∀ b, S b → b < z) : ¬ S X.heap.size := fun k => by
  have := h.row.lt
  have := hS _ k
  omega
/-- An answer as it is to be, in blocks of its own above z. -/
def TO (z : Nat) (w : World) (v : Value) (t : TS) : Prop := ∃ ao c so sc, v = td t.n ao t.m c so t.l sc t.k t.mask t.e ∧ Ro w ao t.m t.N ∧ t.m ≤ 262144 ∧ Rs w so t.l (fun k => .int .i8 (t.f k)) ∧ t.l ≤ 16777216 ∧ (∀ p, ao = some p → z < p.block) ∧ (∀ p, so = some p → z < p.block) ∧ Own w 35 ao t.m c (wf t.N) ∧ Own w 24 so t.l sc (fun k => .int .i8 (t.f k))
theorem told_end {w X X' : World} {o : Oq} {S : Nat → Prop} {z : Nat} {h0 : Nat → Prop} {hb ga ca gb cb gs cs gr cr : Nat} {vw : Value} {gw lw : Nat} {gi ci : Nat → Nat} {ff : Nat → Nat → Value} {ll kl kr : Nat} {ao : Option Addr} {ka : Nat} {bo : Option Addr} {kb : Nat} {lo ro : Option Addr} {t : TS} {xo : Option Addr} {xc : Nat} {so : Option Addr} {sc : Nat} {v0 v1 v2 v3 v4 v5 : Value}
    (hS0 : ∀ b, S b → h0 b) (hzl : ∀ b, S b → b < z) (hS1 : ¬ S (w.heap.size + 1)) (hSo : ∀ b n G, w.rowIs b 55 n G → ¬ S b) (h : Tk w X o S z h0 hb ga ca gb cb gs cs gr cr vw gw lw gi ci ff ll kl kr ao ka bo kb lo ro t xo xc so sc) (hp : BP S X X') (hi : Hi X' S hb) (hz : w.heap.size + 2 ≤ z) :
    TO z ((((((X'.setCell ⟨w.heap.size + 1, 0, none⟩ v0).setCell ⟨w.heap.size + 1, 1, none⟩ v1).setCell ⟨w.heap.size + 1, 2, none⟩ v2).setCell ⟨w.heap.size + 1, 3, none⟩ v3).setCell ⟨w.heap.size + 1, 4, none⟩ v4).setCell ⟨w.heap.size + 1, 5, none⟩ v5) (td t.n xo t.m xc so t.l sc t.k t.mask t.e) t ∧
    Hi ((((((X'.setCell ⟨w.heap.size + 1, 0, none⟩ v0).setCell ⟨w.heap.size + 1, 1, none⟩ v1).setCell ⟨w.heap.size + 1, 2, none⟩ v2).setCell ⟨w.heap.size + 1, 3, none⟩ v3).setCell ⟨w.heap.size + 1, 4, none⟩ v4).setCell ⟨w.heap.size + 1, 5, none⟩ v5) S hb ∧
    BP h0 w ((((((X'.setCell ⟨w.heap.size + 1, 0, none⟩ v0).setCell ⟨w.heap.size + 1, 1, none⟩ v1).setCell ⟨w.heap.size + 1, 2, none⟩ v2).setCell ⟨w.heap.size + 1, 3, none⟩ v3).setCell ⟨w.heap.size + 1, 4, none⟩ v4).setCell ⟨w.heap.size + 1, 5, none⟩ v5) ∧
    ∀ b n G, w.rowIs b 55 n G → ((((((X'.setCell ⟨w.heap.size + 1, 0, none⟩ v0).setCell ⟨w.heap.size + 1, 1, none⟩ v1).setCell ⟨w.heap.size + 1, 2, none⟩ v2).setCell ⟨w.heap.size + 1, 3, none⟩ v3).setCell ⟨w.heap.size + 1, 4, none⟩ v4).setCell ⟨w.heap.size + 1, 5, none⟩ v5).rowIs b 55 n G := by
  have hu : BP (· = w.heap.size + 1) X' ((((((X'.setCell ⟨w.heap.size + 1, 0, none⟩ v0).setCell ⟨w.heap.size + 1, 1, none⟩ v1).setCell ⟨w.heap.size + 1, 2, none⟩ v2).setCell ⟨w.heap.size + 1, 3, none⟩ v3).setCell ⟨w.heap.size + 1, 4, none⟩ v4).setCell ⟨w.heap.size + 1, 5, none⟩ v5) := by
    exact ((((((BP.refl (· = w.heap.size + 1) X').set (.inl rfl) v0).set (.inl rfl) v1).set (.inl rfl) v2).set (.inl rfl) v3).set (.inl rfl) v4).set (.inl rfl) v5
  have hn : ∀ p : Addr, z < p.block → ¬ S p.block := fun p hp hx => by have := hzl _ hx; omega
  refine ⟨⟨xo, xc, so, sc, rfl, (h.r.bp hp fun p hp _ => hn p (h.rf p hp)).bp hu fun p hp _ e => by have := h.rf p hp; omega, h.rm, (h.s.bp hp fun p hp => hn p (h.sf p hp)).bp hu fun p hp e => by have := h.sf p hp; omega, h.sm, h.rf, h.sf, (h.ow.bp hp fun p hp => hn p (h.rf p hp)).bp hu fun p hp e => by have := h.rf p hp; omega, (h.os.bp hp fun p hp => hn p (h.sf p hp)).bp hu fun p hp e => by have := h.sf p hp; omega⟩, hi.bp hu fun b hb' e => hS1 (by rw [← e]; exact hb'), (h.lc.p.trans hp fun b _ hb' => hS0 b hb').trans hu fun b hb' e => by omega, fun b n G k => hu.row (by have := k.lt; omega) (hp.row (hSo b n G k) (h.lc.op b n G k))⟩
end Go.Proofs.Yteghelmbibpohaa
