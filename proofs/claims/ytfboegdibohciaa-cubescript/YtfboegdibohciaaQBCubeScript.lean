import Derived.Test.YtfboegdibohciaaQACubeScript
import Derived.StillTailTactics
import Derived.Deep.DeepCutAuto
/- CubeScript: what the calls of package cube and of the document answer lies in new memory. -/
namespace Go.Proofs.Ytfboegdibohciaa
open Go.RowKit Go.Shelf

/-- Words, values in new memory. -/
def Nv (w W : World) (bo : Option Addr) (m N : Nat) : Prop := Wr W bo m N ∧ ∀ g o, bo = some ⟨g, o, none⟩ → w.heap.size ≤ g
def N8v (w W : World) (bo : Option Addr) (m : Nat) (f : Nat → Int) : Prop := Rs W bo m (fun k => .int .i8 (f k)) ∧ ∀ g o, bo = some ⟨g, o, none⟩ → w.heap.size ≤ g
theorem Nv.nil (w W : World) : Nv w W none 0 0 := ⟨wr_nilK _ _, fun _ _ e => by cases e⟩
theorem N8v.nil (w W : World) (f : Nat → Int) : N8v w W none 0 f := ⟨rs_nilK _ _ _, fun _ _ e => by cases e⟩
theorem Nv.row {w W : World} {G m N : Nat} (h : Wr W (some ⟨G, 0, none⟩) m N) (hG : w.heap.size ≤ G) : Nv w W (some ⟨G, 0, none⟩) m N := ⟨h, fun _ _ e => by cases e; exact hG⟩
theorem N8v.row {w W : World} {G m : Nat} {f : Nat → Int} (h : Rs W (some ⟨G, 0, none⟩) m (fun k => .int .i8 (f k))) (hG : w.heap.size ≤ G) : N8v w W (some ⟨G, 0, none⟩) m f := ⟨h, fun _ _ e => by cases e; exact hG⟩
theorem pack_allN (h v c : Int) (l : List Int) (n : Nat) (hl : l.length = n) (ao : Option Addr) (cap : Nat) (w : World) (hcap : n ≤ cap) (hcap2 : cap ≤ 9223372036854775807) (rd : R8 w ao l) (a b d : Int) (m P : Nat) (E : Int) (hE : pE h v c n = E) (hS : pS h v c l n = (a, b, d, m, P)) :
    Calls Try.prog 11 #[Sg.shp h v c, .slice ao n cap] w fun e w' => ∃ bo K, e = .returned (.tuple #[cuv a b d bo m K, .int .i64 E]) ∧ Nv w w' bo m P ∧ Below w.heap.size w w' := by
  subst hE
  by_cases h0 : pE h v c n = 0
  · obtain ⟨H, V, C, rfl, rfl, rfl, k0, hH, hV, hC, e1, e2⟩ := pE_zero h0
    obtain ⟨rfl, rfl, rfl, rfl, rfl⟩ := pS_ok h0 hS
    have hn0 : 0 < n := by rw [e1]; exact Nat.mul_pos (Nat.mul_pos (by omega) (by omega)) (by omega)
    obtain ⟨g, o, rfl, _⟩ := rd 0 (by omega)
    refine (cpack_ok H V C l n hl g o cap w hH hV hC e1 e2 hcap hcap2 k0 _ rfl rd).mono ?_
    rintro e w' ⟨G, rfl, hG, row, hb⟩
    exact ⟨_, _, by rw [h0], Nv.row (Wr.row row js_words) hG, hb⟩
  · have hS' := hS
    unfold pS at hS'
    rw [if_neg h0] at hS'
    cases hS'
    obtain ⟨q1, q2⟩ := pE_bad h0
    refine (cpack_bad h v c ao n cap w _ q1 q2).mono ?_
    rintro e w' ⟨rfl, hb⟩
    exact ⟨_, _, rfl, Nv.nil _ _, hb⟩
theorem rpack_allN (h v c : Int) (l : List Int) (n : Nat) (hl : l.length = n) (ao : Option Addr) (cap : Nat) (w : World) (rd : R8 w ao l) (a b d : Int) (m P : Nat) (E : Int) (hE : pE h v c n = E) (hS : pS h v c l n = (a, b, d, m, P)) :
    Calls Try.prog 22 #[Sg.shp h v c, .slice ao n cap] w fun e w' => ∃ bo K, e = .returned (.tuple #[cuv a b d bo m K, .int .i64 E]) ∧ Nv w w' bo m P ∧ Below w.heap.size w w' := by
  subst hE
  by_cases h0 : pE h v c n = 0
  · obtain ⟨H, V, C, rfl, rfl, rfl, k0, hH, hV, hC, e1, e2⟩ := pE_zero h0
    obtain ⟨rfl, rfl, rfl, rfl, rfl⟩ := pS_ok h0 hS
    refine (rpack_ok H V C l n hl ao cap w hH hV hC e1 e2 k0 _ rfl rd).mono ?_
    rintro e w' ⟨G, rfl, hG, row, hb⟩
    exact ⟨_, _, by rw [h0], Nv.row (Wr.row row js_words) hG, hb⟩
  · have hS' := hS
    unfold pS at hS'
    rw [if_neg h0] at hS'
    cases hS'
    obtain ⟨q1, q2⟩ := pE_bad h0
    refine (rpack_bad h v c ao n cap w _ q1 q2).mono ?_
    rintro e w' ⟨rfl, hb⟩
    exact ⟨_, _, rfl, Nv.nil _ _, hb⟩
theorem turn_allN (n : Int) (ao : Option Addr) (m cap N : Nat) (w : World) (hm : m ≤ 9223372036854775807) (rd : Wr w ao m N) (h v c : Int) (k P : Nat) (E : Int) (hE : tuE n m N = E) (hS : tS n m N = (h, v, c, k, P)) :
    Calls Try.prog 21 #[rv n ao m cap] w fun e w' => ∃ bo K, e = .returned (.tuple #[cuv h v c bo k K, .int .i64 E]) ∧ Nv w w' bo k P ∧ Below w.heap.size w w' := by
  subst hE
  unfold tS at hS
  by_cases h0 : tuE n m N = 0
  · rw [if_pos h0] at hS
    cases hS
    obtain ⟨q, rfl, hq, e1, e2⟩ := tuE_zero h0
    have hm0 : 0 < m := by rw [e1]; unfold nw; omega
    obtain ⟨g, o, rfl, _⟩ := rd.2 0 hm0
    refine (turn_ok q g o m cap N w hq e1 e2 rd).mono ?_
    rintro e w' ⟨G, K, rfl, hG, _, _, _, wr, hb⟩
    exact ⟨_, _, by rw [h0], Nv.row wr hG, hb⟩
  · rw [if_neg h0] at hS
    cases hS
    refine (turn_bad n ao m cap N w hm rd h0).mono ?_
    rintro e w' ⟨rfl, hb⟩
    exact ⟨_, _, rfl, Nv.nil _ _, hb⟩
theorem rturn_allN (n : Int) (ao : Option Addr) (m cap N : Nat) (w : World) (rd : Wr w ao m N) (h v c : Int) (k P : Nat) (E : Int) (hE : tuE n m N = E) (hS : tS n m N = (h, v, c, k, P)) :
    Calls Try.prog 27 #[rv n ao m cap] w fun e w' => ∃ bo K, e = .returned (.tuple #[cuv h v c bo k K, .int .i64 E]) ∧ Nv w w' bo k P ∧ Below w.heap.size w w' := by
  subst hE
  unfold tS at hS
  by_cases h0 : tuE n m N = 0
  · rw [if_pos h0] at hS
    cases hS
    obtain ⟨q, rfl, hq, e1, e2⟩ := tuE_zero h0
    have hm0 : 0 < m := by rw [e1]; unfold nw; omega
    obtain ⟨g, o, rfl, _⟩ := rd.2 0 hm0
    refine (rturn_ok q g o m cap N w (by omega) hq e1 e2 rd).mono ?_
    rintro e w' ⟨G, K, rfl, hG, _, _, wr, hb⟩
    exact ⟨_, _, by rw [h0], Nv.row wr hG, hb⟩
  · rw [if_neg h0] at hS
    cases hS
    refine (rturn_bad n ao m cap N w rd h0).mono ?_
    rintro e w' ⟨rfl, hb⟩
    exact ⟨_, _, rfl, Nv.nil _ _, hb⟩
theorem unpack_allN (h v c : Int) (ao : Option Addr) (m cap N : Nat) (w : World) (hmc : m ≤ cap) (hcap : cap ≤ 9223372036854775807) (rd : Wr w ao m N) (E : Int) (T : Nat) (hE : cuk h v c m N = E) (hT : uT h v c m N = T) :
    Calls Try.prog 13 #[cuv h v c ao m cap] w fun e w' => ∃ bo K, e = .returned (.tuple #[.slice bo T K, .int .i64 E]) ∧ N8v w w' bo T (uv N c.toNat) ∧ Below w.heap.size w w' := by
  subst hE hT
  unfold uT
  by_cases k : cuk h v c m N = 0
  · obtain ⟨H, V, C, rfl, rfl, rfl, hH, hV, hC, hb, k0, hm, hp⟩ := cuk_zeroA k
    obtain ⟨g, o, rfl⟩ := cuk_some hH.1 hV.1 hC.1 hm rd
    rw [if_pos k, Int.toNat_natCast, Int.toNat_natCast, Int.toNat_natCast]
    refine (cunpack_ok H V C g o m cap N w hH hV hC hb k hm hmc hcap rd).mono ?_
    rintro e w' ⟨G, rfl, hG, row, hb'⟩
    exact ⟨_, _, by rw [k], N8v.row (Rs.row row) hG, hb'⟩
  · rw [if_neg k]
    refine (cunpack_bad h v c ao m cap N w hmc hcap rd k).mono ?_
    rintro e w' ⟨rfl, hb⟩
    exact ⟨_, _, rfl, N8v.nil _ _ _, hb⟩
theorem runpack_allN (h v c : Int) (ao : Option Addr) (m cap N : Nat) (w : World) (rd : Wr w ao m N) (E : Int) (T : Nat) (hE : cuk h v c m N = E) (hT : uT h v c m N = T) :
    Calls Try.prog 23 #[cuv h v c ao m cap] w fun e w' => ∃ bo K, e = .returned (.tuple #[.slice bo T K, .int .i64 E]) ∧ N8v w w' bo T (uv N c.toNat) ∧ Below w.heap.size w w' := by
  subst hE hT
  unfold uT
  by_cases k : cuk h v c m N = 0
  · obtain ⟨H, V, C, rfl, rfl, rfl, hH, hV, hC, hb, k0, hm, hp⟩ := cuk_zeroA k
    obtain ⟨g, o, rfl⟩ := cuk_some hH.1 hV.1 hC.1 hm rd
    rw [if_pos k, Int.toNat_natCast, Int.toNat_natCast, Int.toNat_natCast]
    refine (runpack_ok H V C g o m cap N _ w hH hV hC rfl hb k hm rd).mono ?_
    rintro e w' ⟨la, lc, rfl, own, hb'⟩
    refine ⟨_, _, by rw [k], ⟨?_, fun g1 o1 e1 => Nat.le_of_succ_le (own.lt g1 (by rw [e1]; rfl)).1⟩, hb'⟩
    obtain ⟨r8, _, _⟩ := own_r8 (ul_len N C _) own
    intro j hj
    obtain ⟨g', o', e, cc⟩ := r8 j (by rw [ul_len]; exact hj)
    exact ⟨g', o', e, by rw [cc, ul_at hj]⟩
  · rw [if_neg k]
    refine (runpack_bad h v c ao m cap N w rd k).mono ?_
    rintro e w' ⟨rfl, hb⟩
    exact ⟨_, _, rfl, N8v.nil _ _ _, hb⟩
theorem flat_allN (h v c : Int) (ao : Option Addr) (m cap N : Nat) (w : World) (hmc : m ≤ cap) (hcap : cap ≤ 9223372036854775807) (rd : Wr w ao m N) (E n : Int) (k' P : Nat) (hE : cuk h v c m N = E) (hS : fS h v c m N = (n, k', P)) :
    Calls Try.prog 12 #[cuv h v c ao m cap] w fun e w' => ∃ bo K, e = .returned (.tuple #[rv n bo k' K, .int .i64 E]) ∧ Nv w w' bo k' P ∧ Below w.heap.size w w' := by
  subst hE
  unfold fS at hS
  by_cases k : cuk h v c m N = 0
  · obtain ⟨H, V, C, rfl, rfl, rfl, hH, hV, hC, hb, k0, hm, hp⟩ := cuk_zeroA k
    obtain ⟨g, o, rfl⟩ := cuk_some hH.1 hV.1 hC.1 hm rd
    rw [if_pos k, Int.toNat_natCast, Int.toNat_natCast, Int.toNat_natCast] at hS
    cases hS
    refine (cflat_ok H V C g o m cap N w hH hV hC hb k hm hmc hcap hp rd).mono ?_
    rintro e w' ⟨G, rfl, hG, row, hb'⟩
    exact ⟨_, _, by rw [k], Nv.row (Wr.row row (flat_lt hp)) hG, hb'⟩
  · rw [if_neg k] at hS
    cases hS
    refine (cflat_bad h v c ao m cap N w hmc hcap rd k).mono ?_
    rintro e w' ⟨rfl, hb⟩
    exact ⟨_, _, rfl, Nv.nil _ _, hb⟩
theorem rflat_allN (h v c : Int) (ao : Option Addr) (m cap N : Nat) (w : World) (rd : Wr w ao m N) (E n : Int) (k' P : Nat) (hE : cuk h v c m N = E) (hS : fS h v c m N = (n, k', P)) :
    Calls Try.prog 26 #[cuv h v c ao m cap] w fun e w' => ∃ bo K, e = .returned (.tuple #[rv n bo k' K, .int .i64 E]) ∧ Nv w w' bo k' P ∧ Below w.heap.size w w' := by
  subst hE
  unfold fS at hS
  by_cases k : cuk h v c m N = 0
  · obtain ⟨H, V, C, rfl, rfl, rfl, hH, hV, hC, hb, k0, hm, hp⟩ := cuk_zeroA k
    obtain ⟨g, o, rfl⟩ := cuk_some hH.1 hV.1 hC.1 hm rd
    rw [if_pos k, Int.toNat_natCast, Int.toNat_natCast, Int.toNat_natCast] at hS
    cases hS
    refine (rflat_ok H V C g o m cap N _ w hH hV hC rfl hb k hm hp rd).mono ?_
    rintro e w' ⟨G, rfl, hG, row, hb'⟩
    exact ⟨_, _, by rw [k], Nv.row (Wr.row row (flat_lt hp)) hG, hb'⟩
  · rw [if_neg k] at hS
    cases hS
    refine (rflat_bad h v c ao m cap N w rd k).mono ?_
    rintro e w' ⟨rfl, hb⟩
    exact ⟨_, _, rfl, Nv.nil _ _, hb⟩
end Go.Proofs.Ytfboegdibohciaa
/- CubeScript: a step, an answer; alone. -/
namespace Go.Proofs.Ytfboegdibohciaa
open Go.RowKit Go.Shelf

/-- A step as a value, and its thirteen cells. -/
abbrev opv (kd sh sv sc : Int) (lo : Option Addr) (ln lc : Nat) (h v c : Int) (co : Option Addr) (cn ck : Nat) (y x n : Int) (bo : Option Addr) (bn bk : Nat) : Value := .agg #[.int .i64 kd, .int .i64 sh, .int .i64 sv, .int .i64 sc, .slice lo ln lc, .int .i64 h, .int .i64 v, .int .i64 c, .slice co cn ck, .int .i64 y, .int .i64 x, .int .i64 n, .slice bo bn bk]
def opf (kd sh sv sc : Int) (lo : Option Addr) (ln lc : Nat) (h v c : Int) (co : Option Addr) (cn ck : Nat) (y x n : Int) (bo : Option Addr) (bn bk : Nat) : Nat → Value := fun k => match k with | 0 => .int .i64 kd | 1 => .int .i64 sh | 2 => .int .i64 sv | 3 => .int .i64 sc | 4 => .slice lo ln lc | 5 => .int .i64 h | 6 => .int .i64 v | 7 => .int .i64 c | 8 => .slice co cn ck | 9 => .int .i64 y | 10 => .int .i64 x | 11 => .int .i64 n | _ => .slice bo bn bk
abbrev opo (kd sh sv sc : Int) (lo : Option Addr) (ln lc : Nat) (h v c : Int) (co : Option Addr) (cn ck : Nat) (y x n : Int) (bo : Option Addr) (bn bk : Nat) : Obj := .cells #[.int .i64 kd, .int .i64 sh, .int .i64 sv, .int .i64 sc, .slice lo ln lc, .int .i64 h, .int .i64 v, .int .i64 c, .slice co cn ck, .int .i64 y, .int .i64 x, .int .i64 n, .slice bo bn bk] 35
/-- An answer as a value, and its eight cells. -/
abbrev tov (th tv tc : Int) (ao : Option Addr) (m k : Nat) (tn : Int) (po : Option Addr) (p q : Nat) (so : Option Addr) (s t : Nat) (e : Int) : Value := .agg #[.int .i64 th, .int .i64 tv, .int .i64 tc, .slice ao m k, .int .i64 tn, .slice po p q, .slice so s t, .int .i64 e]
def tof (th tv tc : Int) (ao : Option Addr) (m k : Nat) (tn : Int) (po : Option Addr) (p q : Nat) (so : Option Addr) (s t : Nat) (e : Int) : Nat → Value := fun j => match j with | 0 => .int .i64 th | 1 => .int .i64 tv | 2 => .int .i64 tc | 3 => .slice ao m k | 4 => .int .i64 tn | 5 => .slice po p q | 6 => .slice so s t | _ => .int .i64 e
abbrev too (th tv tc : Int) (ao : Option Addr) (m k : Nat) (tn : Int) (po : Option Addr) (p q : Nat) (so : Option Addr) (s t : Nat) (e : Int) : Obj := .cells #[.int .i64 th, .int .i64 tv, .int .i64 tc, .slice ao m k, .int .i64 tn, .slice po p q, .slice so s t, .int .i64 e] 40
theorem op_new (w : World) (kd sh sv sc : Int) (lo : Option Addr) (ln lc : Nat) (h v c : Int) (co : Option Addr) (cn ck : Nat) (y x n : Int) (bo : Option Addr) (bn bk : Nat) : (w.alloc (opo kd sh sv sc lo ln lc h v c co cn ck y x n bo bn bk)).rowIs w.heap.size 35 13 (opf kd sh sv sc lo ln lc h v c co cn ck y x n bo bn bk) :=
  World.rowIs_alloc w _ _ _ (fun i hi => by
    rcases i with _ | _ | _ | _ | _ | _ | _ | _ | _ | _ | _ | _ | _ | i
    all_goals first | rfl | (simp at hi; omega))
theorem op_cells {w : World} {g T : Nat} {kd sh sv sc : Int} {lo : Option Addr} {ln lc : Nat} {h v c : Int} {co : Option Addr} {cn ck : Nat} {y x n : Int} {bo : Option Addr} {bn bk : Nat} (hr : w.rowIs g T 13 (opf kd sh sv sc lo ln lc h v c co cn ck y x n bo bn bk)) : w.cell? ⟨g, 0, none⟩ = some (.int .i64 kd) ∧ w.cell? ⟨g, 1, none⟩ = some (.int .i64 sh) ∧ w.cell? ⟨g, 2, none⟩ = some (.int .i64 sv) ∧ w.cell? ⟨g, 3, none⟩ = some (.int .i64 sc) ∧ w.cell? ⟨g, 4, none⟩ = some (.slice lo ln lc) ∧ w.cell? ⟨g, 5, none⟩ = some (.int .i64 h) ∧ w.cell? ⟨g, 6, none⟩ = some (.int .i64 v) ∧ w.cell? ⟨g, 7, none⟩ = some (.int .i64 c) ∧ w.cell? ⟨g, 8, none⟩ = some (.slice co cn ck) ∧ w.cell? ⟨g, 9, none⟩ = some (.int .i64 y) ∧ w.cell? ⟨g, 10, none⟩ = some (.int .i64 x) ∧ w.cell? ⟨g, 11, none⟩ = some (.int .i64 n) ∧ w.cell? ⟨g, 12, none⟩ = some (.slice bo bn bk) :=
  ⟨hr.cell (i := 0) (by omega), hr.cell (i := 1) (by omega), hr.cell (i := 2) (by omega), hr.cell (i := 3) (by omega), hr.cell (i := 4) (by omega), hr.cell (i := 5) (by omega), hr.cell (i := 6) (by omega), hr.cell (i := 7) (by omega), hr.cell (i := 8) (by omega), hr.cell (i := 9) (by omega), hr.cell (i := 10) (by omega), hr.cell (i := 11) (by omega), hr.cell (i := 12) (by omega)⟩
theorem op_free {w : World} {g T n : Nat} {f : Nat → Value} (hr : w.rowIs g T n f) : w.frozen? ⟨g, 0, none⟩ = false ∧ w.frozen? ⟨g, 1, none⟩ = false ∧ w.frozen? ⟨g, 2, none⟩ = false ∧ w.frozen? ⟨g, 3, none⟩ = false ∧ w.frozen? ⟨g, 4, none⟩ = false ∧ w.frozen? ⟨g, 5, none⟩ = false ∧ w.frozen? ⟨g, 6, none⟩ = false ∧ w.frozen? ⟨g, 7, none⟩ = false ∧ w.frozen? ⟨g, 8, none⟩ = false ∧ w.frozen? ⟨g, 9, none⟩ = false ∧ w.frozen? ⟨g, 10, none⟩ = false ∧ w.frozen? ⟨g, 11, none⟩ = false ∧ w.frozen? ⟨g, 12, none⟩ = false :=
  ⟨hr.frozen 0, hr.frozen 1, hr.frozen 2, hr.frozen 3, hr.frozen 4, hr.frozen 5, hr.frozen 6, hr.frozen 7, hr.frozen 8, hr.frozen 9, hr.frozen 10, hr.frozen 11, hr.frozen 12⟩
theorem op_set {w : World} {g T : Nat} {f : Nat → Value} (hr : w.rowIs g T 13 f) (kd sh sv sc : Int) (lo : Option Addr) (ln lc : Nat) (h v c : Int) (co : Option Addr) (cn ck : Nat) (y x n : Int) (bo : Option Addr) (bn bk : Nat) : ((((((((((((((w.setCell ⟨g, 0, none⟩ (.int .i64 kd)).setCell ⟨g, 1, none⟩ (.int .i64 sh)).setCell ⟨g, 2, none⟩ (.int .i64 sv)).setCell ⟨g, 3, none⟩ (.int .i64 sc)).setCell ⟨g, 4, none⟩ (.slice lo ln lc)).setCell ⟨g, 5, none⟩ (.int .i64 h)).setCell ⟨g, 6, none⟩ (.int .i64 v)).setCell ⟨g, 7, none⟩ (.int .i64 c)).setCell ⟨g, 8, none⟩ (.slice co cn ck)).setCell ⟨g, 9, none⟩ (.int .i64 y)).setCell ⟨g, 10, none⟩ (.int .i64 x)).setCell ⟨g, 11, none⟩ (.int .i64 n)).setCell ⟨g, 12, none⟩ (.slice bo bn bk))).rowIs g T 13 (opf kd sh sv sc lo ln lc h v c co cn ck y x n bo bn bk) :=
  (((((((((((((hr.set 0 _).set 1 _).set 2 _).set 3 _).set 4 _).set 5 _).set 6 _).set 7 _).set 8 _).set 9 _).set 10 _).set 11 _).set 12 _).congr fun j hj => by
    rcases j with _ | _ | _ | _ | _ | _ | _ | _ | _ | _ | _ | _ | _ | j
    all_goals first | rfl | omega
theorem But.setop (g : Nat) (w : World) (kd sh sv sc : Int) (lo : Option Addr) (ln lc : Nat) (h v c : Int) (co : Option Addr) (cn ck : Nat) (y x n : Int) (bo : Option Addr) (bn bk : Nat) : But g w ((((((((((((((w.setCell ⟨g, 0, none⟩ (.int .i64 kd)).setCell ⟨g, 1, none⟩ (.int .i64 sh)).setCell ⟨g, 2, none⟩ (.int .i64 sv)).setCell ⟨g, 3, none⟩ (.int .i64 sc)).setCell ⟨g, 4, none⟩ (.slice lo ln lc)).setCell ⟨g, 5, none⟩ (.int .i64 h)).setCell ⟨g, 6, none⟩ (.int .i64 v)).setCell ⟨g, 7, none⟩ (.int .i64 c)).setCell ⟨g, 8, none⟩ (.slice co cn ck)).setCell ⟨g, 9, none⟩ (.int .i64 y)).setCell ⟨g, 10, none⟩ (.int .i64 x)).setCell ⟨g, 11, none⟩ (.int .i64 n)).setCell ⟨g, 12, none⟩ (.slice bo bn bk))) :=
  ((((((((((((((But.refl g w).set _).set _).set _).set _).set _).set _).set _).set _).set _).set _).set _).set _).set _)
theorem to_new (w : World) (th tv tc : Int) (ao : Option Addr) (m k : Nat) (tn : Int) (po : Option Addr) (p q : Nat) (so : Option Addr) (s t : Nat) (e : Int) : (w.alloc (too th tv tc ao m k tn po p q so s t e)).rowIs w.heap.size 40 8 (tof th tv tc ao m k tn po p q so s t e) :=
  World.rowIs_alloc w _ _ _ (fun i hi => by
    rcases i with _ | _ | _ | _ | _ | _ | _ | _ | i
    all_goals first | rfl | (simp at hi; omega))
theorem to_cells {w : World} {g T : Nat} {th tv tc : Int} {ao : Option Addr} {m k : Nat} {tn : Int} {po : Option Addr} {p q : Nat} {so : Option Addr} {s t : Nat} {e : Int} (hr : w.rowIs g T 8 (tof th tv tc ao m k tn po p q so s t e)) : w.cell? ⟨g, 0, none⟩ = some (.int .i64 th) ∧ w.cell? ⟨g, 1, none⟩ = some (.int .i64 tv) ∧ w.cell? ⟨g, 2, none⟩ = some (.int .i64 tc) ∧ w.cell? ⟨g, 3, none⟩ = some (.slice ao m k) ∧ w.cell? ⟨g, 4, none⟩ = some (.int .i64 tn) ∧ w.cell? ⟨g, 5, none⟩ = some (.slice po p q) ∧ w.cell? ⟨g, 6, none⟩ = some (.slice so s t) ∧ w.cell? ⟨g, 7, none⟩ = some (.int .i64 e) :=
  ⟨hr.cell (i := 0) (by omega), hr.cell (i := 1) (by omega), hr.cell (i := 2) (by omega), hr.cell (i := 3) (by omega), hr.cell (i := 4) (by omega), hr.cell (i := 5) (by omega), hr.cell (i := 6) (by omega), hr.cell (i := 7) (by omega)⟩
theorem to_free {w : World} {g T n : Nat} {f : Nat → Value} (hr : w.rowIs g T n f) : w.frozen? ⟨g, 0, none⟩ = false ∧ w.frozen? ⟨g, 1, none⟩ = false ∧ w.frozen? ⟨g, 2, none⟩ = false ∧ w.frozen? ⟨g, 3, none⟩ = false ∧ w.frozen? ⟨g, 4, none⟩ = false ∧ w.frozen? ⟨g, 5, none⟩ = false ∧ w.frozen? ⟨g, 6, none⟩ = false ∧ w.frozen? ⟨g, 7, none⟩ = false :=
  ⟨hr.frozen 0, hr.frozen 1, hr.frozen 2, hr.frozen 3, hr.frozen 4, hr.frozen 5, hr.frozen 6, hr.frozen 7⟩
theorem to_set {w : World} {g T : Nat} {f : Nat → Value} (hr : w.rowIs g T 8 f) (th tv tc : Int) (ao : Option Addr) (m k : Nat) (tn : Int) (po : Option Addr) (p q : Nat) (so : Option Addr) (s t : Nat) (e : Int) : (((((((((w.setCell ⟨g, 0, none⟩ (.int .i64 th)).setCell ⟨g, 1, none⟩ (.int .i64 tv)).setCell ⟨g, 2, none⟩ (.int .i64 tc)).setCell ⟨g, 3, none⟩ (.slice ao m k)).setCell ⟨g, 4, none⟩ (.int .i64 tn)).setCell ⟨g, 5, none⟩ (.slice po p q)).setCell ⟨g, 6, none⟩ (.slice so s t)).setCell ⟨g, 7, none⟩ (.int .i64 e))).rowIs g T 8 (tof th tv tc ao m k tn po p q so s t e) :=
  ((((((((hr.set 0 _).set 1 _).set 2 _).set 3 _).set 4 _).set 5 _).set 6 _).set 7 _).congr fun j hj => by
    rcases j with _ | _ | _ | _ | _ | _ | _ | _ | j
    all_goals first | rfl | omega
theorem But.setto (g : Nat) (w : World) (th tv tc : Int) (ao : Option Addr) (m k : Nat) (tn : Int) (po : Option Addr) (p q : Nat) (so : Option Addr) (s t : Nat) (e : Int) : But g w (((((((((w.setCell ⟨g, 0, none⟩ (.int .i64 th)).setCell ⟨g, 1, none⟩ (.int .i64 tv)).setCell ⟨g, 2, none⟩ (.int .i64 tc)).setCell ⟨g, 3, none⟩ (.slice ao m k)).setCell ⟨g, 4, none⟩ (.int .i64 tn)).setCell ⟨g, 5, none⟩ (.slice po p q)).setCell ⟨g, 6, none⟩ (.slice so s t)).setCell ⟨g, 7, none⟩ (.int .i64 e))) :=
  (((((((((But.refl g w).set _).set _).set _).set _).set _).set _).set _).set _)
theorem op_list4 {w : World} {g T : Nat} {kd sh sv sc : Int} {lo : Option Addr} {ln lc : Nat} {h v c : Int} {co : Option Addr} {cn ck : Nat} {y x n : Int} {bo : Option Addr} {bn bk : Nat} (hr : w.rowIs g T 13 (opf kd sh sv sc lo ln lc h v c co cn ck y x n bo bn bk)) (zo : Option Addr) (zn zc : Nat) : (w.setCell ⟨g, 4, none⟩ (.slice zo zn zc)).rowIs g T 13 (opf kd sh sv sc zo zn zc h v c co cn ck y x n bo bn bk) :=
  (hr.set 4 _).congr fun j hj => by
    rcases j with _ | _ | _ | _ | _ | _ | _ | _ | _ | _ | _ | _ | _ | j
    all_goals first | rfl | omega
theorem op_list8 {w : World} {g T : Nat} {kd sh sv sc : Int} {lo : Option Addr} {ln lc : Nat} {h v c : Int} {co : Option Addr} {cn ck : Nat} {y x n : Int} {bo : Option Addr} {bn bk : Nat} (hr : w.rowIs g T 13 (opf kd sh sv sc lo ln lc h v c co cn ck y x n bo bn bk)) (zo : Option Addr) (zn zc : Nat) : (w.setCell ⟨g, 8, none⟩ (.slice zo zn zc)).rowIs g T 13 (opf kd sh sv sc lo ln lc h v c zo zn zc y x n bo bn bk) :=
  (hr.set 8 _).congr fun j hj => by
    rcases j with _ | _ | _ | _ | _ | _ | _ | _ | _ | _ | _ | _ | _ | j
    all_goals first | rfl | omega
theorem op_list12 {w : World} {g T : Nat} {kd sh sv sc : Int} {lo : Option Addr} {ln lc : Nat} {h v c : Int} {co : Option Addr} {cn ck : Nat} {y x n : Int} {bo : Option Addr} {bn bk : Nat} (hr : w.rowIs g T 13 (opf kd sh sv sc lo ln lc h v c co cn ck y x n bo bn bk)) (zo : Option Addr) (zn zc : Nat) : (w.setCell ⟨g, 12, none⟩ (.slice zo zn zc)).rowIs g T 13 (opf kd sh sv sc lo ln lc h v c co cn ck y x n zo zn zc) :=
  (hr.set 12 _).congr fun j hj => by
    rcases j with _ | _ | _ | _ | _ | _ | _ | _ | _ | _ | _ | _ | _ | j
    all_goals first | rfl | omega
/-- alone under way. -/
structure Al (w W : World) (kd sh sv sc : Int) (lo : Option Addr) (ln lc : Nat) (h v c : Int) (co : Option Addr) (cn ck : Nat) (y x n : Int) (bo : Option Addr) (bn bk : Nat) : Prop where
  a : W.rowIs w.heap.size 35 13 (opf kd sh sv sc lo ln lc h v c co cn ck y x n bo bn bk)
  r : W.rowIs (w.heap.size + 1) 35 13 (opf 0 0 0 0 none 0 0 0 0 0 none 0 0 0 0 0 none 0 0)
  b : Below w.heap.size w W
theorem al_start (w : World) (kd sh sv sc : Int) (lo : Option Addr) (ln lc : Nat) (h v c : Int) (co : Option Addr) (cn ck : Nat) (y x n : Int) (bo : Option Addr) (bn bk : Nat) : Al w ((w.alloc (opo kd sh sv sc lo ln lc h v c co cn ck y x n bo bn bk)).alloc (opo 0 0 0 0 none 0 0 0 0 0 none 0 0 0 0 0 none 0 0)) kd sh sv sc lo ln lc h v c co cn ck y x n bo bn bk := by
  refine ⟨(op_new w _ _ _ _ _ _ _ _ _ _ _ _ _ _ _ _ _ _ _).alloc _, ?_, bl_alloc (bl_alloc (Below.refl _ _) _) _⟩
  have := op_new (w.alloc (opo kd sh sv sc lo ln lc h v c co cn ck y x n bo bn bk)) 0 0 0 0 none 0 0 0 0 0 none 0 0 0 0 0 none 0 0
  rw [World.size_alloc] at this
  exact this
theorem Al.below {w W W' : World} {kd sh sv sc : Int} {lo : Option Addr} {ln lc : Nat} {h v c : Int} {co : Option Addr} {cn ck : Nat} {y x n : Int} {bo : Option Addr} {bn bk : Nat} (al : Al w W kd sh sv sc lo ln lc h v c co cn ck y x n bo bn bk) (hb : Below W.heap.size W W') : Al w W' kd sh sv sc lo ln lc h v c co cn ck y x n bo bn bk := ⟨keepr hb al.a, keepr hb al.r, bl_step al.b hb⟩
/-- A step's lists, each in a block of its own. -/
structure Xm (W : World) (Gl ln : Nat) (f : Nat → Int) (Gc cn N Gb bn P : Nat) : Prop where
  l : W.rowIs Gl 47 (ln + 66) (rvf f ln)
  c : W.rowIs Gc 53 (cn + 66) (rmf N cn)
  b : W.rowIs Gb 53 (bn + 66) (rmf P bn)
  ne : Gc ≠ Gb
  hN : N < 2 ^ (64 * cn)
  hP : P < 2 ^ (64 * bn)
  l1 : ln ≤ 140737488351232
  c1 : cn ≤ 17592186043904
  b1 : bn ≤ 17592186043904
theorem Xm.below {W W' : World} {Gl ln : Nat} {f : Nat → Int} {Gc cn N Gb bn P : Nat} (h : Xm W Gl ln f Gc cn N Gb bn P) (hb : Below W.heap.size W W') : Xm W' Gl ln f Gc cn N Gb bn P := ⟨keepr hb h.l, keepr hb h.c, keepr hb h.b, h.ne, h.hN, h.hP, h.l1, h.c1, h.b1⟩
set_option maxHeartbeats 3200000 in
set_option maxRecDepth 100000 in
theorem alone_any (kd sh sv sc : Int) (lo : Option Addr) (ln lc : Nat) (h v c : Int) (co : Option Addr) (cn ck : Nat) (y x n : Int) (bo : Option Addr) (bn bk : Nat) (f : Nat → Int) (N P : Nat) (w : World) (hl : ln ≤ 140737488351232) (hc : cn ≤ 17592186043904) (hb' : bn ≤ 17592186043904) (rl : Rs w lo ln (fun k => .int .i8 (f k))) (rc : Wr w co cn N) (rb : Wr w bo bn P) :
    Calls Try.prog 6 #[opv kd sh sv sc lo ln lc h v c co cn ck y x n bo bn bk] w fun e w' => ∃ Gl Gc Gb, e = .returned (opv kd sh sv sc (some ⟨Gl, 0, none⟩) ln (ln + 66) h v c (some ⟨Gc, 0, none⟩) cn (cn + 66) y x n (some ⟨Gb, 0, none⟩) bn (bn + 66)) ∧ (w.heap.size ≤ Gl ∧ w.heap.size ≤ Gc ∧ w.heap.size ≤ Gb) ∧ Xm w' Gl ln f Gc cn N Gb bn P ∧ Below w.heap.size w w' := by
  have HW := hid1 (fun W r' => wide8_any ln f lo lc W hl r')
  have HR := hid1 (fun W r' => roomy_any cn N co ck W hc r')
  have HS := hid1 (fun W r' => roomy_any bn P bo bk W hb' r')
  have HST := hid1 (al_start w kd sh sv sc lo ln lc h v c co cn ck y x n bo bn bk)
  have RL := hid1 rl
  have RC := hid1 rc
  have RB := hid1 rb
  clear rl rc rb
  go_enter Try.func6, Try.ntmps6
  go_wp2_with fail
  refine gen_calls (fun W => Al w W kd sh sv sc lo ln lc h v c co cn ck y x n bo bn bk) HST.out ?_
  clear HST
  rintro W al
  refine (HW.out W (RL.out.below al.b)).mono ?_
  rintro e w1 ⟨Gl, rfl, hGl, rowl, hb⟩
  have l2 := al.r.lt
  replace al := al.below hb
  clear hb
  obtain ⟨c0, c1, c2, c3, c4, c5, c6, c7, c8, c9, c10, c11, c12⟩ := op_cells al.a
  have f4 := al.a.frozen 4
  have HA := hid1 al
  have HL := hid1 rowl
  clear al rowl
  go_upto_region 2 with fail
  have bt : But w.heap.size w1 (w1.setCell ⟨w.heap.size, 4, none⟩ (.slice (some ⟨Gl, 0, none⟩) ln (ln + 66))) := (But.refl _ _).set _
  refine gen_world (fun X => Al w X kd sh sv sc (some ⟨Gl, 0, none⟩) ln (ln + 66) h v c co cn ck y x n bo bn bk ∧ X.rowIs Gl 47 (ln + 66) (rvf f ln)) ⟨⟨op_list4 HA.out.a _ _ _, bt.row (by omega) HA.out.r, bl_set HA.out.b (Nat.le_refl _) _⟩, bt.row (by omega) HL.out⟩ ?_
  clear HA HL c0 c1 c2 c3 c4 c5 c6 c7 c8 c9 c10 c11 c12 f4 bt
  rintro X ⟨al, rowl⟩
  obtain ⟨c0, c1, c2, c3, c4, c5, c6, c7, c8, c9, c10, c11, c12⟩ := op_cells al.a
  have HA := hid1 al
  have HL := hid1 rowl
  clear al rowl
  go_wp2_with fail
  refine (HR.out X (RC.out.below HA.out.b)).mono ?_
  rintro e w2 ⟨Gc, rfl, hGc, rowc, hb⟩
  have al := HA.out.below hb
  have rowl := keepr hb HL.out
  have ll := HL.out.lt
  have l3 := HA.out.r.lt
  clear hb HA HL c0 c1 c2 c3 c4 c5 c6 c7 c8 c9 c10 c11 c12
  obtain ⟨c0, c1, c2, c3, c4, c5, c6, c7, c8, c9, c10, c11, c12⟩ := op_cells al.a
  have f8 := al.a.frozen 8
  have HA := hid1 al
  have HL := hid1 rowl
  have HC := hid1 rowc
  clear al rowl rowc
  go_upto_region 3 with fail
  have bt : But w.heap.size w2 (w2.setCell ⟨w.heap.size, 8, none⟩ (.slice (some ⟨Gc, 0, none⟩) cn (cn + 66))) := (But.refl _ _).set _
  refine gen_world (fun X => Al w X kd sh sv sc (some ⟨Gl, 0, none⟩) ln (ln + 66) h v c (some ⟨Gc, 0, none⟩) cn (cn + 66) y x n bo bn bk ∧ X.rowIs Gl 47 (ln + 66) (rvf f ln) ∧ X.rowIs Gc 53 (cn + 66) (rmf N cn)) ⟨⟨op_list8 HA.out.a _ _ _, bt.row (by omega) HA.out.r, bl_set HA.out.b (Nat.le_refl _) _⟩, bt.row (by omega) HL.out, bt.row (by omega) HC.out⟩ ?_
  clear HA HL HC c0 c1 c2 c3 c4 c5 c6 c7 c8 c9 c10 c11 c12 f8 bt
  rintro Y ⟨al, rowl, rowc⟩
  obtain ⟨c0, c1, c2, c3, c4, c5, c6, c7, c8, c9, c10, c11, c12⟩ := op_cells al.a
  have HA := hid1 al
  have HL := hid1 rowl
  have HC := hid1 rowc
  clear al rowl rowc
  go_wp2_with fail
  refine (HS.out Y (RB.out.below HA.out.b)).mono ?_
  rintro e w3 ⟨Gb, rfl, hGb, rowb, hb⟩
  have al := HA.out.below hb
  have rowl := keepr hb HL.out
  have rowc := keepr hb HC.out
  have lc' := HC.out.lt
  have l4 := HA.out.r.lt
  clear hb HA HL HC c0 c1 c2 c3 c4 c5 c6 c7 c8 c9 c10 c11 c12
  obtain ⟨c0, c1, c2, c3, c4, c5, c6, c7, c8, c9, c10, c11, c12⟩ := op_cells al.a
  have f12 := al.a.frozen 12
  have HA := hid1 al
  have HL := hid1 rowl
  have HC := hid1 rowc
  have HB := hid1 rowb
  clear al rowl rowc rowb
  go_upto_region 4 with fail
  have bt : But w.heap.size w3 (w3.setCell ⟨w.heap.size, 12, none⟩ (.slice (some ⟨Gb, 0, none⟩) bn (bn + 66))) := (But.refl _ _).set _
  refine gen_world (fun X => Al w X kd sh sv sc (some ⟨Gl, 0, none⟩) ln (ln + 66) h v c (some ⟨Gc, 0, none⟩) cn (cn + 66) y x n (some ⟨Gb, 0, none⟩) bn (bn + 66) ∧ Xm X Gl ln f Gc cn N Gb bn P) ⟨⟨op_list12 HA.out.a _ _ _, bt.row (by omega) HA.out.r, bl_set HA.out.b (Nat.le_refl _) _⟩, bt.row (by omega) HL.out, bt.row (by omega) HC.out, bt.row (by omega) HB.out, by omega, RC.out.1, RB.out.1, hl, hc, hb'⟩ ?_
  clear HA HL HC HB c0 c1 c2 c3 c4 c5 c6 c7 c8 c9 c10 c11 c12 f12 bt
  rintro Z ⟨al, xm⟩
  obtain ⟨c0, c1, c2, c3, c4, c5, c6, c7, c8, c9, c10, c11, c12⟩ := op_cells al.a
  obtain ⟨d0, d1, d2, d3, d4, d5, d6, d7, d8, d9, d10, d11, d12⟩ := op_cells al.r
  obtain ⟨f0, f1, f2, f3, f4, f5, f6, f7, f8, f9, f10, f11, f12⟩ := op_free al.r
  have HA := hid1 al
  have HX := hid1 xm
  clear al xm
  go_wp2_with fail
  have u := op_set HA.out.r kd sh sv sc (some ⟨Gl, 0, none⟩) ln (ln + 66) h v c (some ⟨Gc, 0, none⟩) cn (cn + 66) y x n (some ⟨Gb, 0, none⟩) bn (bn + 66)
  obtain ⟨u0, u1, u2, u3, u4, u5, u6, u7, u8, u9, u10, u11, u12⟩ := op_cells u
  have bt := But.setop (w.heap.size + 1) Z kd sh sv sc (some ⟨Gl, 0, none⟩) ln (ln + 66) h v c (some ⟨Gc, 0, none⟩) cn (cn + 66) y x n (some ⟨Gb, 0, none⟩) bn (bn + 66)
  exact bodyPost_ret (v := opv kd sh sv sc (some ⟨Gl, 0, none⟩) ln (ln + 66) h v c (some ⟨Gc, 0, none⟩) cn (cn + 66) y x n (some ⟨Gb, 0, none⟩) bn (bn + 66)) (by simp [results, Try.results6, go_sem, u0, u1, u2, u3, u4, u5, u6, u7, u8, u9, u10, u11, u12]) rfl ⟨Gl, Gc, Gb, rfl, ⟨by omega, by omega, by omega⟩, ⟨bt.row (by omega) HX.out.l, bt.row (by omega) HX.out.c, bt.row (by omega) HX.out.b, HX.out.ne, HX.out.hN, HX.out.hP, hl, hc, hb'⟩, bt.below (by omega) HA.out.b.size HA.out.b⟩
end Go.Proofs.Ytfboegdibohciaa
/- CubeScript: ran. -/
namespace Go.Proofs.Ytfboegdibohciaa
open Go.RowKit Go.Shelf

theorem Wr.butK {w w' : World} {b : Nat} {ao : Option Addr} {m N : Nat} (h : Wr w ao m N) (hb : But b w w') (hs : ∀ g o, ao = some ⟨g, o, none⟩ → g ≠ b) : Wr w' ao m N :=
  ⟨h.1, fun j hj => by
    obtain ⟨g, o, e, c⟩ := h.2 j hj
    exact ⟨g, o, e, hb.cell (hs g o e) c⟩⟩
theorem Rs.butK {w w' : World} {b : Nat} {ao : Option Addr} {m : Nat} {f : Nat → Value} (h : Rs w ao m f) (hb : But b w w') (hs : ∀ g o, ao = some ⟨g, o, none⟩ → g ≠ b) : Rs w' ao m f := fun j hj => by
    obtain ⟨g, o, e, c⟩ := h j hj
    exact ⟨g, o, e, hb.cell (hs g o e) c⟩
theorem Nv.but {w W y y' : World} {b : Nat} {ao : Option Addr} {m N : Nat} (h : Nv W y ao m N) (hb : But b y y') (h1 : b < W.heap.size) (h2 : w.heap.size ≤ W.heap.size) : Nv w y' ao m N :=
  ⟨h.1.butK hb (fun g o e => by have := h.2 g o e; omega), fun g o e => by have := h.2 g o e; omega⟩
theorem N8v.but {w W y y' : World} {b : Nat} {ao : Option Addr} {m : Nat} {f : Nat → Int} (h : N8v W y ao m f) (hb : But b y y') (h1 : b < W.heap.size) (h2 : w.heap.size ≤ W.heap.size) : N8v w y' ao m f :=
  ⟨h.1.butK hb (fun g o e => by have := h.2 g o e; omega), fun g o e => by have := h.2 g o e; omega⟩
theorem Nv.below {w y y' : World} {ao : Option Addr} {m N : Nat} (h : Nv w y ao m N) (hb : Below y.heap.size y y') : Nv w y' ao m N := ⟨h.1.below hb, h.2⟩
theorem N8v.below {w y y' : World} {ao : Option Addr} {m : Nat} {f : Nat → Int} (h : N8v w y ao m f) (hb : Below y.heap.size y y') : N8v w y' ao m f := ⟨h.1.below hb, h.2⟩
/-- What a step's call answers, as a post. -/
abbrev RQ (w : World) (th tv tc : Int) (m X : Nat) (tn : Int) (p Y s : Nat) (g : Nat → Int) (E : Int) : Ending → World → Prop := fun e w' => ∃ ao k po q so t, e = .returned (tov th tv tc ao m k tn po p q so s t E) ∧ Nv w w' ao m X ∧ Nv w w' po p Y ∧ N8v w w' so s g ∧ Below w.heap.size w w'
/-- An answer in the block that is handed out. -/
structure Te (w y : World) (th tv tc : Int) (ao : Option Addr) (m k : Nat) (tn : Int) (po : Option Addr) (p q : Nat) (so : Option Addr) (s t : Nat) (e : Int) (X Y : Nat) (g : Nat → Int) : Prop where
  r : y.rowIs (w.heap.size + 1) 40 8 (tof th tv tc ao m k tn po p q so s t e)
  a : Nv w y ao m X
  b : Nv w y po p Y
  l : N8v w y so s g
  B : Below w.heap.size w y
theorem Te.alloc {w y : World} {th tv tc : Int} {ao : Option Addr} {m k : Nat} {tn : Int} {po : Option Addr} {p q : Nat} {so : Option Addr} {s t : Nat} {e : Int} {X Y : Nat} {g : Nat → Int} (te : Te w y th tv tc ao m k tn po p q so s t e X Y g) (ob : Obj) : Te w (y.alloc ob) th tv tc ao m k tn po p q so s t e X Y g :=
  ⟨te.r.alloc _, te.a.below (bl_alloc (Below.refl _ _) _), te.b.below (bl_alloc (Below.refl _ _) _), te.l.below (bl_alloc (Below.refl _ _) _), bl_alloc te.B _⟩
theorem told_end {w W y : World} {f0 : Nat → Value} {th tv tc : Int} {ao : Option Addr} {m k : Nat} {tn : Int} {po : Option Addr} {p q : Nat} {so : Option Addr} {s t : Nat} {e : Int} {X Y : Nat} {g : Nat → Int} (r : y.rowIs (w.heap.size + 1) 40 8 f0) (hW : w.heap.size + 2 ≤ W.heap.size) (n1 : Nv W y ao m X) (n2 : Nv W y po p Y) (n3 : N8v W y so s g) (B : Below w.heap.size w y) : Te w (((((((((y.setCell ⟨w.heap.size + 1, 0, none⟩ (.int .i64 th)).setCell ⟨w.heap.size + 1, 1, none⟩ (.int .i64 tv)).setCell ⟨w.heap.size + 1, 2, none⟩ (.int .i64 tc)).setCell ⟨w.heap.size + 1, 3, none⟩ (.slice ao m k)).setCell ⟨w.heap.size + 1, 4, none⟩ (.int .i64 tn)).setCell ⟨w.heap.size + 1, 5, none⟩ (.slice po p q)).setCell ⟨w.heap.size + 1, 6, none⟩ (.slice so s t)).setCell ⟨w.heap.size + 1, 7, none⟩ (.int .i64 e))) th tv tc ao m k tn po p q so s t e X Y g := by
  have bt := But.setto (w.heap.size + 1) y th tv tc ao m k tn po p q so s t e
  exact ⟨to_set r _ _ _ _ _ _ _ _ _ _ _ _ _ _, n1.but bt (by omega) (by omega), n2.but bt (by omega) (by omega), n3.but bt (by omega) (by omega), bt.below (by omega) B.size B⟩
/-- ran, meant begun: the step's block, the answer's. -/
structure Rn (w W : World) (kd sh sv sc : Int) (lo : Option Addr) (ln lc : Nat) (h v c : Int) (co : Option Addr) (cn ck : Nat) (y x n : Int) (bo : Option Addr) (bn bk : Nat) : Prop where
  z : W.heap.size = w.heap.size + 2
  a : W.rowIs w.heap.size 35 13 (opf kd sh sv sc lo ln lc h v c co cn ck y x n bo bn bk)
  r : W.rowIs (w.heap.size + 1) 40 8 (tof 0 0 0 none 0 0 0 none 0 0 none 0 0 0)
  b : Below w.heap.size w W
theorem rn_start (w : World) (kd sh sv sc : Int) (lo : Option Addr) (ln lc : Nat) (h v c : Int) (co : Option Addr) (cn ck : Nat) (y x n : Int) (bo : Option Addr) (bn bk : Nat) : Rn w ((w.alloc (opo kd sh sv sc lo ln lc h v c co cn ck y x n bo bn bk)).alloc (too 0 0 0 none 0 0 0 none 0 0 none 0 0 0)) kd sh sv sc lo ln lc h v c co cn ck y x n bo bn bk := by
  refine ⟨by simp, (op_new w _ _ _ _ _ _ _ _ _ _ _ _ _ _ _ _ _ _ _).alloc _, ?_, bl_alloc (bl_alloc (Below.refl _ _) _) _⟩
  have := to_new (w.alloc (opo kd sh sv sc lo ln lc h v c co cn ck y x n bo bn bk)) 0 0 0 none 0 0 0 none 0 0 none 0 0 0
  rw [World.size_alloc] at this
  exact this
set_option maxHeartbeats 3200000 in
set_option maxRecDepth 100000 in
theorem ran1 (sh sv sc : Int) (lo : Option Addr) (ln lc : Nat) (h v c : Int) (co : Option Addr) (cn ck : Nat) (y x n : Int) (bo : Option Addr) (bn bk : Nat) (th tv tc : Int) (m X : Nat) (E : Int) (w : World) (H : ∀ W, Below w.heap.size w W → Calls Try.prog 11 #[Sg.shp sh sv sc, .slice lo ln lc] W fun e w' => ∃ zo K, e = .returned (.tuple #[cuv th tv tc zo m K, .int .i64 E]) ∧ Nv W w' zo m X ∧ Below W.heap.size W w') :
    Calls Try.prog 7 #[opv 1 sh sv sc lo ln lc h v c co cn ck y x n bo bn bk] w (RQ w th tv tc m X 0 0 0 0 (fun _ => 0) E) := by
  have HST := hid1 (rn_start w 1 sh sv sc lo ln lc h v c co cn ck y x n bo bn bk)
  have HX := hid1 H
  clear H
  go_enter Try.func7, Try.ntmps7
  go_upto_region 1 with fail
  refine gen_world (fun W => Rn w W 1 sh sv sc lo ln lc h v c co cn ck y x n bo bn bk) HST.out ?_
  clear HST
  rintro W ⟨z0, b0, b1, B1⟩
  obtain ⟨c0, c1, c2, c3, c4, c5, c6, c7, c8, c9, c10, c11, c12⟩ := op_cells b0
  clear b0
  go_wp2_with fail
  refine (HX.out W B1).mono ?_
  rintro e w2 ⟨zo, K, rfl, nw1, hb⟩
  replace b1 := keepr hb b1
  have B2 := bl_step B1 hb
  clear hb B1
  obtain ⟨d0, d1, d2, d3, d4, d5, d6, d7⟩ := to_cells b1
  obtain ⟨f0, f1, f2, f3, f4, f5, f6, f7⟩ := to_free b1
  have l1 := b1.lt
  have HB1 := hid1 b1
  have NW := hid1 nw1
  clear b1 nw1
  go_wp2_with fail
  have te := (told_end (w := w) (W := W) (y := w2) (th := th) (tv := tv) (tc := tc) (ao := zo) (m := m) (k := K) (tn := 0) (po := none) (p := 0) (q := 0) (so := none) (s := 0) (t := 0) (e := E) (X := X) (Y := 0) (g := (fun _ => 0)) HB1.out (by omega) NW.out (Nv.nil _ _) (N8v.nil _ _ _) B2).alloc (.cells #[.int .i64 th, .int .i64 tv, .int .i64 tc, .slice zo m K] 31)
  obtain ⟨u0, u1, u2, u3, u4, u5, u6, u7⟩ := to_cells te.r
  exact bodyPost_ret (v := tov th tv tc zo m K 0 none 0 0 none 0 0 E) (by simp [results, Try.results7, go_sem, u0, u1, u2, u3, u4, u5, u6, u7]) rfl ⟨_, _, _, _, _, _, rfl, te.a, te.b, te.l, te.B⟩
set_option maxHeartbeats 3200000 in
set_option maxRecDepth 100000 in
theorem ran2 (sh sv sc : Int) (lo : Option Addr) (ln lc : Nat) (h v c : Int) (co : Option Addr) (cn ck : Nat) (y x n : Int) (bo : Option Addr) (bn bk : Nat) (s : Nat) (g : Nat → Int) (E : Int) (w : World) (H : ∀ W, Below w.heap.size w W → Calls Try.prog 13 #[cuv h v c co cn ck] W fun e w' => ∃ zo K, e = .returned (.tuple #[.slice zo s K, .int .i64 E]) ∧ N8v W w' zo s g ∧ Below W.heap.size W w') :
    Calls Try.prog 7 #[opv 2 sh sv sc lo ln lc h v c co cn ck y x n bo bn bk] w (RQ w 0 0 0 0 0 0 0 0 s g E) := by
  have HST := hid1 (rn_start w 2 sh sv sc lo ln lc h v c co cn ck y x n bo bn bk)
  have HX := hid1 H
  clear H
  go_enter Try.func7, Try.ntmps7
  go_upto_region 1 with fail
  refine gen_world (fun W => Rn w W 2 sh sv sc lo ln lc h v c co cn ck y x n bo bn bk) HST.out ?_
  clear HST
  rintro W ⟨z0, b0, b1, B1⟩
  obtain ⟨c0, c1, c2, c3, c4, c5, c6, c7, c8, c9, c10, c11, c12⟩ := op_cells b0
  clear b0
  go_wp2_with fail
  refine (HX.out W B1).mono ?_
  rintro e w2 ⟨zo, K, rfl, nw1, hb⟩
  replace b1 := keepr hb b1
  have B2 := bl_step B1 hb
  clear hb B1
  obtain ⟨d0, d1, d2, d3, d4, d5, d6, d7⟩ := to_cells b1
  obtain ⟨f0, f1, f2, f3, f4, f5, f6, f7⟩ := to_free b1
  have l1 := b1.lt
  have HB1 := hid1 b1
  have NW := hid1 nw1
  clear b1 nw1
  go_wp2_with fail
  have te := (told_end (w := w) (W := W) (y := w2) (th := 0) (tv := 0) (tc := 0) (ao := none) (m := 0) (k := 0) (tn := 0) (po := none) (p := 0) (q := 0) (so := zo) (s := s) (t := K) (e := E) (X := 0) (Y := 0) (g := g) HB1.out (by omega) (Nv.nil _ _) (Nv.nil _ _) NW.out B2)
  obtain ⟨u0, u1, u2, u3, u4, u5, u6, u7⟩ := to_cells te.r
  exact bodyPost_ret (v := tov 0 0 0 none 0 0 0 none 0 0 zo s K E) (by simp [results, Try.results7, go_sem, u0, u1, u2, u3, u4, u5, u6, u7]) rfl ⟨_, _, _, _, _, _, rfl, te.a, te.b, te.l, te.B⟩
set_option maxHeartbeats 3200000 in
set_option maxRecDepth 100000 in
theorem ran3 (sh sv sc : Int) (lo : Option Addr) (ln lc : Nat) (h v c : Int) (co : Option Addr) (cn ck : Nat) (y x n : Int) (bo : Option Addr) (bn bk : Nat) (E : Int) (w : World) (H : ∀ W, Below w.heap.size w W → Calls Try.prog 19 #[cuv h v c co cn ck] W fun e w' => e = .returned (.int .i64 E) ∧ Below W.heap.size W w') :
    Calls Try.prog 7 #[opv 3 sh sv sc lo ln lc h v c co cn ck y x n bo bn bk] w (RQ w 0 0 0 0 0 0 0 0 0 (fun _ => 0) E) := by
  have HST := hid1 (rn_start w 3 sh sv sc lo ln lc h v c co cn ck y x n bo bn bk)
  have HX := hid1 H
  clear H
  go_enter Try.func7, Try.ntmps7
  go_upto_region 1 with fail
  refine gen_world (fun W => Rn w W 3 sh sv sc lo ln lc h v c co cn ck y x n bo bn bk) HST.out ?_
  clear HST
  rintro W ⟨z0, b0, b1, B1⟩
  obtain ⟨c0, c1, c2, c3, c4, c5, c6, c7, c8, c9, c10, c11, c12⟩ := op_cells b0
  clear b0
  go_wp2_with fail
  refine (HX.out W B1).mono ?_
  rintro e w2 ⟨rfl, hb⟩
  replace b1 := keepr hb b1
  have B2 := bl_step B1 hb
  clear hb B1
  obtain ⟨d0, d1, d2, d3, d4, d5, d6, d7⟩ := to_cells b1
  obtain ⟨f0, f1, f2, f3, f4, f5, f6, f7⟩ := to_free b1
  have l1 := b1.lt
  have HB1 := hid1 b1
  clear b1
  go_wp2_with fail
  have te := (told_end (w := w) (W := W) (y := w2) (th := 0) (tv := 0) (tc := 0) (ao := none) (m := 0) (k := 0) (tn := 0) (po := none) (p := 0) (q := 0) (so := none) (s := 0) (t := 0) (e := E) (X := 0) (Y := 0) (g := (fun _ => 0)) HB1.out (by omega) (Nv.nil _ _) (Nv.nil _ _) (N8v.nil _ _ _) B2)
  obtain ⟨u0, u1, u2, u3, u4, u5, u6, u7⟩ := to_cells te.r
  exact bodyPost_ret (v := tov 0 0 0 none 0 0 0 none 0 0 none 0 0 E) (by simp [results, Try.results7, go_sem, u0, u1, u2, u3, u4, u5, u6, u7]) rfl ⟨_, _, _, _, _, _, rfl, te.a, te.b, te.l, te.B⟩
set_option maxHeartbeats 3200000 in
set_option maxRecDepth 100000 in
theorem ran4 (sh sv sc : Int) (lo : Option Addr) (ln lc : Nat) (h v c : Int) (co : Option Addr) (cn ck : Nat) (y x n : Int) (bo : Option Addr) (bn bk : Nat) (tn : Int) (p Y : Nat) (E : Int) (w : World) (H : ∀ W, Below w.heap.size w W → Calls Try.prog 20 #[cuv h v c co cn ck, .int .i64 y, .int .i64 x] W fun e w' => ∃ zo K, e = .returned (.tuple #[rv tn zo p K, .int .i64 E]) ∧ Nv W w' zo p Y ∧ Below W.heap.size W w') :
    Calls Try.prog 7 #[opv 4 sh sv sc lo ln lc h v c co cn ck y x n bo bn bk] w (RQ w 0 0 0 0 0 tn p Y 0 (fun _ => 0) E) := by
  have HST := hid1 (rn_start w 4 sh sv sc lo ln lc h v c co cn ck y x n bo bn bk)
  have HX := hid1 H
  clear H
  go_enter Try.func7, Try.ntmps7
  go_upto_region 1 with fail
  refine gen_world (fun W => Rn w W 4 sh sv sc lo ln lc h v c co cn ck y x n bo bn bk) HST.out ?_
  clear HST
  rintro W ⟨z0, b0, b1, B1⟩
  obtain ⟨c0, c1, c2, c3, c4, c5, c6, c7, c8, c9, c10, c11, c12⟩ := op_cells b0
  clear b0
  go_wp2_with fail
  refine (HX.out W B1).mono ?_
  rintro e w2 ⟨zo, K, rfl, nw1, hb⟩
  replace b1 := keepr hb b1
  have B2 := bl_step B1 hb
  clear hb B1
  obtain ⟨d0, d1, d2, d3, d4, d5, d6, d7⟩ := to_cells b1
  obtain ⟨f0, f1, f2, f3, f4, f5, f6, f7⟩ := to_free b1
  have l1 := b1.lt
  have HB1 := hid1 b1
  have NW := hid1 nw1
  clear b1 nw1
  go_wp2_with fail
  have te := (told_end (w := w) (W := W) (y := w2) (th := 0) (tv := 0) (tc := 0) (ao := none) (m := 0) (k := 0) (tn := tn) (po := zo) (p := p) (q := K) (so := none) (s := 0) (t := 0) (e := E) (X := 0) (Y := Y) (g := (fun _ => 0)) HB1.out (by omega) (Nv.nil _ _) NW.out (N8v.nil _ _ _) B2).alloc (.cells #[.int .i64 tn, .slice zo p K] 33)
  obtain ⟨u0, u1, u2, u3, u4, u5, u6, u7⟩ := to_cells te.r
  exact bodyPost_ret (v := tov 0 0 0 none 0 0 tn zo p K none 0 0 E) (by simp [results, Try.results7, go_sem, u0, u1, u2, u3, u4, u5, u6, u7]) rfl ⟨_, _, _, _, _, _, rfl, te.a, te.b, te.l, te.B⟩
set_option maxHeartbeats 3200000 in
set_option maxRecDepth 100000 in
theorem ran5 (sh sv sc : Int) (lo : Option Addr) (ln lc : Nat) (h v c : Int) (co : Option Addr) (cn ck : Nat) (y x n : Int) (bo : Option Addr) (bn bk : Nat) (tn : Int) (p Y : Nat) (E : Int) (w : World) (H : ∀ W, Below w.heap.size w W → Calls Try.prog 12 #[cuv h v c co cn ck] W fun e w' => ∃ zo K, e = .returned (.tuple #[rv tn zo p K, .int .i64 E]) ∧ Nv W w' zo p Y ∧ Below W.heap.size W w') :
    Calls Try.prog 7 #[opv 5 sh sv sc lo ln lc h v c co cn ck y x n bo bn bk] w (RQ w 0 0 0 0 0 tn p Y 0 (fun _ => 0) E) := by
  have HST := hid1 (rn_start w 5 sh sv sc lo ln lc h v c co cn ck y x n bo bn bk)
  have HX := hid1 H
  clear H
  go_enter Try.func7, Try.ntmps7
  go_upto_region 1 with fail
  refine gen_world (fun W => Rn w W 5 sh sv sc lo ln lc h v c co cn ck y x n bo bn bk) HST.out ?_
  clear HST
  rintro W ⟨z0, b0, b1, B1⟩
  obtain ⟨c0, c1, c2, c3, c4, c5, c6, c7, c8, c9, c10, c11, c12⟩ := op_cells b0
  clear b0
  go_wp2_with fail
  refine (HX.out W B1).mono ?_
  rintro e w2 ⟨zo, K, rfl, nw1, hb⟩
  replace b1 := keepr hb b1
  have B2 := bl_step B1 hb
  clear hb B1
  obtain ⟨d0, d1, d2, d3, d4, d5, d6, d7⟩ := to_cells b1
  obtain ⟨f0, f1, f2, f3, f4, f5, f6, f7⟩ := to_free b1
  have l1 := b1.lt
  have HB1 := hid1 b1
  have NW := hid1 nw1
  clear b1 nw1
  go_wp2_with fail
  have te := (told_end (w := w) (W := W) (y := w2) (th := 0) (tv := 0) (tc := 0) (ao := none) (m := 0) (k := 0) (tn := tn) (po := zo) (p := p) (q := K) (so := none) (s := 0) (t := 0) (e := E) (X := 0) (Y := Y) (g := (fun _ => 0)) HB1.out (by omega) (Nv.nil _ _) NW.out (N8v.nil _ _ _) B2).alloc (.cells #[.int .i64 tn, .slice zo p K] 33)
  obtain ⟨u0, u1, u2, u3, u4, u5, u6, u7⟩ := to_cells te.r
  exact bodyPost_ret (v := tov 0 0 0 none 0 0 tn zo p K none 0 0 E) (by simp [results, Try.results7, go_sem, u0, u1, u2, u3, u4, u5, u6, u7]) rfl ⟨_, _, _, _, _, _, rfl, te.a, te.b, te.l, te.B⟩
set_option maxHeartbeats 3200000 in
set_option maxRecDepth 100000 in
theorem ran6 (sh sv sc : Int) (lo : Option Addr) (ln lc : Nat) (h v c : Int) (co : Option Addr) (cn ck : Nat) (y x n : Int) (bo : Option Addr) (bn bk : Nat) (th tv tc : Int) (m X : Nat) (E : Int) (w : World) (H : ∀ W, Below w.heap.size w W → Calls Try.prog 21 #[rv n bo bn bk] W fun e w' => ∃ zo K, e = .returned (.tuple #[cuv th tv tc zo m K, .int .i64 E]) ∧ Nv W w' zo m X ∧ Below W.heap.size W w') :
    Calls Try.prog 7 #[opv 6 sh sv sc lo ln lc h v c co cn ck y x n bo bn bk] w (RQ w th tv tc m X 0 0 0 0 (fun _ => 0) E) := by
  have HST := hid1 (rn_start w 6 sh sv sc lo ln lc h v c co cn ck y x n bo bn bk)
  have HX := hid1 H
  clear H
  go_enter Try.func7, Try.ntmps7
  go_upto_region 1 with fail
  refine gen_world (fun W => Rn w W 6 sh sv sc lo ln lc h v c co cn ck y x n bo bn bk) HST.out ?_
  clear HST
  rintro W ⟨z0, b0, b1, B1⟩
  obtain ⟨c0, c1, c2, c3, c4, c5, c6, c7, c8, c9, c10, c11, c12⟩ := op_cells b0
  clear b0
  go_wp2_with fail
  refine (HX.out W B1).mono ?_
  rintro e w2 ⟨zo, K, rfl, nw1, hb⟩
  replace b1 := keepr hb b1
  have B2 := bl_step B1 hb
  clear hb B1
  obtain ⟨d0, d1, d2, d3, d4, d5, d6, d7⟩ := to_cells b1
  obtain ⟨f0, f1, f2, f3, f4, f5, f6, f7⟩ := to_free b1
  have l1 := b1.lt
  have HB1 := hid1 b1
  have NW := hid1 nw1
  clear b1 nw1
  go_wp2_with fail
  have te := (told_end (w := w) (W := W) (y := w2) (th := th) (tv := tv) (tc := tc) (ao := zo) (m := m) (k := K) (tn := 0) (po := none) (p := 0) (q := 0) (so := none) (s := 0) (t := 0) (e := E) (X := X) (Y := 0) (g := (fun _ => 0)) HB1.out (by omega) NW.out (Nv.nil _ _) (N8v.nil _ _ _) B2).alloc (.cells #[.int .i64 th, .int .i64 tv, .int .i64 tc, .slice zo m K] 31)
  obtain ⟨u0, u1, u2, u3, u4, u5, u6, u7⟩ := to_cells te.r
  exact bodyPost_ret (v := tov th tv tc zo m K 0 none 0 0 none 0 0 E) (by simp [results, Try.results7, go_sem, u0, u1, u2, u3, u4, u5, u6, u7]) rfl ⟨_, _, _, _, _, _, rfl, te.a, te.b, te.l, te.B⟩
set_option maxHeartbeats 3200000 in
set_option maxRecDepth 100000 in
theorem ran0 (kd sh sv sc : Int) (lo : Option Addr) (ln lc : Nat) (h v c : Int) (co : Option Addr) (cn ck : Nat) (y x n : Int) (bo : Option Addr) (bn bk : Nat) (w : World) (h1 : ¬ kd = 1) (h2 : ¬ kd = 2) (h3 : ¬ kd = 3) (h4 : ¬ kd = 4) (h5 : ¬ kd = 5) (h6 : ¬ kd = 6) :
    Calls Try.prog 7 #[opv kd sh sv sc lo ln lc h v c co cn ck y x n bo bn bk] w (RQ w 0 0 0 0 0 0 0 0 0 (fun _ => 0) 0) := by
  have HST := hid1 (rn_start w kd sh sv sc lo ln lc h v c co cn ck y x n bo bn bk)
  go_enter Try.func7, Try.ntmps7
  go_upto_region 1 with fail
  refine gen_world (fun W => Rn w W kd sh sv sc lo ln lc h v c co cn ck y x n bo bn bk) HST.out ?_
  clear HST
  rintro W ⟨z0, b0, b1, B1⟩
  obtain ⟨c0, c1, c2, c3, c4, c5, c6, c7, c8, c9, c10, c11, c12⟩ := op_cells b0
  clear b0
  obtain ⟨d0, d1, d2, d3, d4, d5, d6, d7⟩ := to_cells b1
  obtain ⟨f0, f1, f2, f3, f4, f5, f6, f7⟩ := to_free b1
  have l1 := b1.lt
  have HB1 := hid1 b1
  clear b1
  go_wp2_with fail
  have te := told_end (w := w) (W := W) (y := W) (th := 0) (tv := 0) (tc := 0) (ao := none) (m := 0) (k := 0) (tn := 0) (po := none) (p := 0) (q := 0) (so := none) (s := 0) (t := 0) (e := 0) (X := 0) (Y := 0) (g := fun _ => 0) HB1.out (by omega) (Nv.nil _ _) (Nv.nil _ _) (N8v.nil _ _ _) B1
  obtain ⟨u0, u1, u2, u3, u4, u5, u6, u7⟩ := to_cells te.r
  exact bodyPost_ret (v := tov 0 0 0 none 0 0 0 none 0 0 none 0 0 0) (by simp [results, Try.results7, go_sem, u0, u1, u2, u3, u4, u5, u6, u7]) rfl ⟨_, _, _, _, _, _, rfl, te.a, te.b, te.l, te.B⟩
end Go.Proofs.Ytfboegdibohciaa
/- CubeScript: meant. -/
namespace Go.Proofs.Ytfboegdibohciaa
open Go.RowKit Go.Shelf

/-- meant, behind alone. -/
structure Rm (w w1 V : World) (kd sh sv sc : Int) (lo : Option Addr) (ln lc : Nat) (h v c : Int) (co : Option Addr) (cn ck : Nat) (y x n : Int) (bo : Option Addr) (bn bk : Nat) (f : Nat → Int) (N P Gl Gc Gb : Nat) : Prop where
  z : V.heap.size = w1.heap.size + 1
  a : V.rowIs w1.heap.size 35 13 (opf kd sh sv sc (some ⟨Gl, 0, none⟩) ln (ln + 66) h v c (some ⟨Gc, 0, none⟩) cn (cn + 66) y x n (some ⟨Gb, 0, none⟩) bn (bn + 66))
  r : V.rowIs (w.heap.size + 1) 40 8 (tof 0 0 0 none 0 0 0 none 0 0 none 0 0 0)
  x : Xm V Gl ln f Gc cn N Gb bn P
  b : Below w.heap.size w V
theorem rm_start {w w1 : World} (kd sh sv sc : Int) (lo : Option Addr) (ln lc : Nat) (h v c : Int) (co : Option Addr) (cn ck : Nat) (y x n : Int) (bo : Option Addr) (bn bk : Nat) {f : Nat → Int} {N P Gl Gc Gb : Nat} (r : w1.rowIs (w.heap.size + 1) 40 8 (tof 0 0 0 none 0 0 0 none 0 0 none 0 0 0)) (xm : Xm w1 Gl ln f Gc cn N Gb bn P) (B : Below w.heap.size w w1) : Rm w w1 (w1.alloc (opo kd sh sv sc (some ⟨Gl, 0, none⟩) ln (ln + 66) h v c (some ⟨Gc, 0, none⟩) cn (cn + 66) y x n (some ⟨Gb, 0, none⟩) bn (bn + 66))) kd sh sv sc lo ln lc h v c co cn ck y x n bo bn bk f N P Gl Gc Gb :=
  ⟨by simp, op_new w1 _ _ _ _ _ _ _ _ _ _ _ _ _ _ _ _ _ _ _, r.alloc _, xm.below (bl_alloc (Below.refl _ _) _), bl_alloc B _⟩
set_option maxHeartbeats 3200000 in
set_option maxRecDepth 100000 in
theorem meant1 (sh sv sc : Int) (lo : Option Addr) (ln lc : Nat) (h v c : Int) (co : Option Addr) (cn ck : Nat) (y x n : Int) (bo : Option Addr) (bn bk : Nat) (f : Nat → Int) (N P : Nat) (hl : ln ≤ 140737488351232) (hc : cn ≤ 17592186043904) (hb' : bn ≤ 17592186043904) (th tv tc : Int) (m X : Nat) (E : Int) (w : World) (rl : Rs w lo ln (fun k => .int .i8 (f k))) (rc : Wr w co cn N) (rb : Wr w bo bn P) (H : ∀ Gl Gc Gb W, Xm W Gl ln f Gc cn N Gb bn P → Calls Try.prog 22 #[Sg.shp sh sv sc, .slice (some ⟨Gl, 0, none⟩) ln (ln + 66)] W fun e w' => ∃ zo K, e = .returned (.tuple #[cuv th tv tc zo m K, .int .i64 E]) ∧ Nv W w' zo m X ∧ Below W.heap.size W w') :
    Calls Try.prog 8 #[opv 1 sh sv sc lo ln lc h v c co cn ck y x n bo bn bk] w (RQ w th tv tc m X 0 0 0 0 (fun _ => 0) E) := by
  have HX := hid1 H
  clear H
  have HST := hid1 (rn_start w 1 sh sv sc lo ln lc h v c co cn ck y x n bo bn bk)
  have HAL := hid1 (fun W r1 r2 r3 => alone_any 1 sh sv sc lo ln lc h v c co cn ck y x n bo bn bk f N P W hl hc hb' r1 r2 r3)
  have RL := hid1 rl
  have RC := hid1 rc
  have RB := hid1 rb
  clear rl rc rb
  go_enter Try.func8, Try.ntmps8
  go_upto_region 1 with fail
  refine gen_world (fun W => Rn w W 1 sh sv sc lo ln lc h v c co cn ck y x n bo bn bk) HST.out ?_
  clear HST
  rintro W ⟨z0, b0, b1, B0⟩
  obtain ⟨c0, c1, c2, c3, c4, c5, c6, c7, c8, c9, c10, c11, c12⟩ := op_cells b0
  clear b0
  go_wp2_with fail
  refine (HAL.out W (RL.out.below B0) (RC.out.below B0) (RB.out.below B0)).mono ?_
  rintro e w1 ⟨Gl, Gc, Gb, rfl, _, xm, hb⟩
  replace b1 := keepr hb b1
  have B0' := bl_step B0 hb
  have z1 := hb.size
  clear hb B0 c0 c1 c2 c3 c4 c5 c6 c7 c8 c9 c10 c11 c12
  have HXM := hid1 xm
  clear xm
  go_upto_region 2 with fail
  refine gen_world (fun V => Rm w w1 V 1 sh sv sc lo ln lc h v c co cn ck y x n bo bn bk f N P Gl Gc Gb) (rm_start 1 sh sv sc lo ln lc h v c co cn ck y x n bo bn bk b1 HXM.out B0') ?_
  clear b1 B0' HXM
  rintro V ⟨zV, b0, b1, xm, B1⟩
  obtain ⟨c0, c1, c2, c3, c4, c5, c6, c7, c8, c9, c10, c11, c12⟩ := op_cells b0
  clear b0
  go_wp2_with fail
  refine (HX.out Gl Gc Gb V xm).mono ?_
  rintro e w2 ⟨zo, K, rfl, nw1, hb⟩
  replace b1 := keepr hb b1
  have B2 := bl_step B1 hb
  clear hb B1
  obtain ⟨d0, d1, d2, d3, d4, d5, d6, d7⟩ := to_cells b1
  obtain ⟨f0, f1, f2, f3, f4, f5, f6, f7⟩ := to_free b1
  have l1 := b1.lt
  have HB1 := hid1 b1
  have NW := hid1 nw1
  clear b1 nw1
  go_wp2_with fail
  have te := (told_end (w := w) (W := V) (y := w2) (th := th) (tv := tv) (tc := tc) (ao := zo) (m := m) (k := K) (tn := 0) (po := none) (p := 0) (q := 0) (so := none) (s := 0) (t := 0) (e := E) (X := X) (Y := 0) (g := (fun _ => 0)) HB1.out (by omega) NW.out (Nv.nil _ _) (N8v.nil _ _ _) B2).alloc (.cells #[.int .i64 th, .int .i64 tv, .int .i64 tc, .slice zo m K] 31)
  obtain ⟨u0, u1, u2, u3, u4, u5, u6, u7⟩ := to_cells te.r
  exact bodyPost_ret (v := tov th tv tc zo m K 0 none 0 0 none 0 0 E) (by simp [results, Try.results8, go_sem, u0, u1, u2, u3, u4, u5, u6, u7]) rfl ⟨_, _, _, _, _, _, rfl, te.a, te.b, te.l, te.B⟩
set_option maxHeartbeats 3200000 in
set_option maxRecDepth 100000 in
theorem meant2 (sh sv sc : Int) (lo : Option Addr) (ln lc : Nat) (h v c : Int) (co : Option Addr) (cn ck : Nat) (y x n : Int) (bo : Option Addr) (bn bk : Nat) (f : Nat → Int) (N P : Nat) (hl : ln ≤ 140737488351232) (hc : cn ≤ 17592186043904) (hb' : bn ≤ 17592186043904) (s : Nat) (g : Nat → Int) (E : Int) (w : World) (rl : Rs w lo ln (fun k => .int .i8 (f k))) (rc : Wr w co cn N) (rb : Wr w bo bn P) (H : ∀ Gl Gc Gb W, Xm W Gl ln f Gc cn N Gb bn P → Calls Try.prog 23 #[cuv h v c (some ⟨Gc, 0, none⟩) cn (cn + 66)] W fun e w' => ∃ zo K, e = .returned (.tuple #[.slice zo s K, .int .i64 E]) ∧ N8v W w' zo s g ∧ Below W.heap.size W w') :
    Calls Try.prog 8 #[opv 2 sh sv sc lo ln lc h v c co cn ck y x n bo bn bk] w (RQ w 0 0 0 0 0 0 0 0 s g E) := by
  have HX := hid1 H
  clear H
  have HST := hid1 (rn_start w 2 sh sv sc lo ln lc h v c co cn ck y x n bo bn bk)
  have HAL := hid1 (fun W r1 r2 r3 => alone_any 2 sh sv sc lo ln lc h v c co cn ck y x n bo bn bk f N P W hl hc hb' r1 r2 r3)
  have RL := hid1 rl
  have RC := hid1 rc
  have RB := hid1 rb
  clear rl rc rb
  go_enter Try.func8, Try.ntmps8
  go_upto_region 1 with fail
  refine gen_world (fun W => Rn w W 2 sh sv sc lo ln lc h v c co cn ck y x n bo bn bk) HST.out ?_
  clear HST
  rintro W ⟨z0, b0, b1, B0⟩
  obtain ⟨c0, c1, c2, c3, c4, c5, c6, c7, c8, c9, c10, c11, c12⟩ := op_cells b0
  clear b0
  go_wp2_with fail
  refine (HAL.out W (RL.out.below B0) (RC.out.below B0) (RB.out.below B0)).mono ?_
  rintro e w1 ⟨Gl, Gc, Gb, rfl, _, xm, hb⟩
  replace b1 := keepr hb b1
  have B0' := bl_step B0 hb
  have z1 := hb.size
  clear hb B0 c0 c1 c2 c3 c4 c5 c6 c7 c8 c9 c10 c11 c12
  have HXM := hid1 xm
  clear xm
  go_upto_region 2 with fail
  refine gen_world (fun V => Rm w w1 V 2 sh sv sc lo ln lc h v c co cn ck y x n bo bn bk f N P Gl Gc Gb) (rm_start 2 sh sv sc lo ln lc h v c co cn ck y x n bo bn bk b1 HXM.out B0') ?_
  clear b1 B0' HXM
  rintro V ⟨zV, b0, b1, xm, B1⟩
  obtain ⟨c0, c1, c2, c3, c4, c5, c6, c7, c8, c9, c10, c11, c12⟩ := op_cells b0
  clear b0
  go_wp2_with fail
  refine (HX.out Gl Gc Gb V xm).mono ?_
  rintro e w2 ⟨zo, K, rfl, nw1, hb⟩
  replace b1 := keepr hb b1
  have B2 := bl_step B1 hb
  clear hb B1
  obtain ⟨d0, d1, d2, d3, d4, d5, d6, d7⟩ := to_cells b1
  obtain ⟨f0, f1, f2, f3, f4, f5, f6, f7⟩ := to_free b1
  have l1 := b1.lt
  have HB1 := hid1 b1
  have NW := hid1 nw1
  clear b1 nw1
  go_wp2_with fail
  have te := (told_end (w := w) (W := V) (y := w2) (th := 0) (tv := 0) (tc := 0) (ao := none) (m := 0) (k := 0) (tn := 0) (po := none) (p := 0) (q := 0) (so := zo) (s := s) (t := K) (e := E) (X := 0) (Y := 0) (g := g) HB1.out (by omega) (Nv.nil _ _) (Nv.nil _ _) NW.out B2)
  obtain ⟨u0, u1, u2, u3, u4, u5, u6, u7⟩ := to_cells te.r
  exact bodyPost_ret (v := tov 0 0 0 none 0 0 0 none 0 0 zo s K E) (by simp [results, Try.results8, go_sem, u0, u1, u2, u3, u4, u5, u6, u7]) rfl ⟨_, _, _, _, _, _, rfl, te.a, te.b, te.l, te.B⟩
set_option maxHeartbeats 3200000 in
set_option maxRecDepth 100000 in
theorem meant3 (sh sv sc : Int) (lo : Option Addr) (ln lc : Nat) (h v c : Int) (co : Option Addr) (cn ck : Nat) (y x n : Int) (bo : Option Addr) (bn bk : Nat) (f : Nat → Int) (N P : Nat) (hl : ln ≤ 140737488351232) (hc : cn ≤ 17592186043904) (hb' : bn ≤ 17592186043904) (E : Int) (w : World) (rl : Rs w lo ln (fun k => .int .i8 (f k))) (rc : Wr w co cn N) (rb : Wr w bo bn P) (H : ∀ Gl Gc Gb W, Xm W Gl ln f Gc cn N Gb bn P → Calls Try.prog 24 #[cuv h v c (some ⟨Gc, 0, none⟩) cn (cn + 66)] W fun e w' => e = .returned (.int .i64 E) ∧ Below W.heap.size W w') :
    Calls Try.prog 8 #[opv 3 sh sv sc lo ln lc h v c co cn ck y x n bo bn bk] w (RQ w 0 0 0 0 0 0 0 0 0 (fun _ => 0) E) := by
  have HX := hid1 H
  clear H
  have HST := hid1 (rn_start w 3 sh sv sc lo ln lc h v c co cn ck y x n bo bn bk)
  have HAL := hid1 (fun W r1 r2 r3 => alone_any 3 sh sv sc lo ln lc h v c co cn ck y x n bo bn bk f N P W hl hc hb' r1 r2 r3)
  have RL := hid1 rl
  have RC := hid1 rc
  have RB := hid1 rb
  clear rl rc rb
  go_enter Try.func8, Try.ntmps8
  go_upto_region 1 with fail
  refine gen_world (fun W => Rn w W 3 sh sv sc lo ln lc h v c co cn ck y x n bo bn bk) HST.out ?_
  clear HST
  rintro W ⟨z0, b0, b1, B0⟩
  obtain ⟨c0, c1, c2, c3, c4, c5, c6, c7, c8, c9, c10, c11, c12⟩ := op_cells b0
  clear b0
  go_wp2_with fail
  refine (HAL.out W (RL.out.below B0) (RC.out.below B0) (RB.out.below B0)).mono ?_
  rintro e w1 ⟨Gl, Gc, Gb, rfl, _, xm, hb⟩
  replace b1 := keepr hb b1
  have B0' := bl_step B0 hb
  have z1 := hb.size
  clear hb B0 c0 c1 c2 c3 c4 c5 c6 c7 c8 c9 c10 c11 c12
  have HXM := hid1 xm
  clear xm
  go_upto_region 2 with fail
  refine gen_world (fun V => Rm w w1 V 3 sh sv sc lo ln lc h v c co cn ck y x n bo bn bk f N P Gl Gc Gb) (rm_start 3 sh sv sc lo ln lc h v c co cn ck y x n bo bn bk b1 HXM.out B0') ?_
  clear b1 B0' HXM
  rintro V ⟨zV, b0, b1, xm, B1⟩
  obtain ⟨c0, c1, c2, c3, c4, c5, c6, c7, c8, c9, c10, c11, c12⟩ := op_cells b0
  clear b0
  go_wp2_with fail
  refine (HX.out Gl Gc Gb V xm).mono ?_
  rintro e w2 ⟨rfl, hb⟩
  replace b1 := keepr hb b1
  have B2 := bl_step B1 hb
  clear hb B1
  obtain ⟨d0, d1, d2, d3, d4, d5, d6, d7⟩ := to_cells b1
  obtain ⟨f0, f1, f2, f3, f4, f5, f6, f7⟩ := to_free b1
  have l1 := b1.lt
  have HB1 := hid1 b1
  clear b1
  go_wp2_with fail
  have te := (told_end (w := w) (W := V) (y := w2) (th := 0) (tv := 0) (tc := 0) (ao := none) (m := 0) (k := 0) (tn := 0) (po := none) (p := 0) (q := 0) (so := none) (s := 0) (t := 0) (e := E) (X := 0) (Y := 0) (g := (fun _ => 0)) HB1.out (by omega) (Nv.nil _ _) (Nv.nil _ _) (N8v.nil _ _ _) B2)
  obtain ⟨u0, u1, u2, u3, u4, u5, u6, u7⟩ := to_cells te.r
  exact bodyPost_ret (v := tov 0 0 0 none 0 0 0 none 0 0 none 0 0 E) (by simp [results, Try.results8, go_sem, u0, u1, u2, u3, u4, u5, u6, u7]) rfl ⟨_, _, _, _, _, _, rfl, te.a, te.b, te.l, te.B⟩
set_option maxHeartbeats 3200000 in
set_option maxRecDepth 100000 in
theorem meant4 (sh sv sc : Int) (lo : Option Addr) (ln lc : Nat) (h v c : Int) (co : Option Addr) (cn ck : Nat) (y x n : Int) (bo : Option Addr) (bn bk : Nat) (f : Nat → Int) (N P : Nat) (hl : ln ≤ 140737488351232) (hc : cn ≤ 17592186043904) (hb' : bn ≤ 17592186043904) (tn : Int) (p Y : Nat) (E : Int) (w : World) (rl : Rs w lo ln (fun k => .int .i8 (f k))) (rc : Wr w co cn N) (rb : Wr w bo bn P) (H : ∀ Gl Gc Gb W, Xm W Gl ln f Gc cn N Gb bn P → Calls Try.prog 25 #[cuv h v c (some ⟨Gc, 0, none⟩) cn (cn + 66), .int .i64 y, .int .i64 x] W fun e w' => ∃ zo K, e = .returned (.tuple #[rv tn zo p K, .int .i64 E]) ∧ Nv W w' zo p Y ∧ Below W.heap.size W w') :
    Calls Try.prog 8 #[opv 4 sh sv sc lo ln lc h v c co cn ck y x n bo bn bk] w (RQ w 0 0 0 0 0 tn p Y 0 (fun _ => 0) E) := by
  have HX := hid1 H
  clear H
  have HST := hid1 (rn_start w 4 sh sv sc lo ln lc h v c co cn ck y x n bo bn bk)
  have HAL := hid1 (fun W r1 r2 r3 => alone_any 4 sh sv sc lo ln lc h v c co cn ck y x n bo bn bk f N P W hl hc hb' r1 r2 r3)
  have RL := hid1 rl
  have RC := hid1 rc
  have RB := hid1 rb
  clear rl rc rb
  go_enter Try.func8, Try.ntmps8
  go_upto_region 1 with fail
  refine gen_world (fun W => Rn w W 4 sh sv sc lo ln lc h v c co cn ck y x n bo bn bk) HST.out ?_
  clear HST
  rintro W ⟨z0, b0, b1, B0⟩
  obtain ⟨c0, c1, c2, c3, c4, c5, c6, c7, c8, c9, c10, c11, c12⟩ := op_cells b0
  clear b0
  go_wp2_with fail
  refine (HAL.out W (RL.out.below B0) (RC.out.below B0) (RB.out.below B0)).mono ?_
  rintro e w1 ⟨Gl, Gc, Gb, rfl, _, xm, hb⟩
  replace b1 := keepr hb b1
  have B0' := bl_step B0 hb
  have z1 := hb.size
  clear hb B0 c0 c1 c2 c3 c4 c5 c6 c7 c8 c9 c10 c11 c12
  have HXM := hid1 xm
  clear xm
  go_upto_region 2 with fail
  refine gen_world (fun V => Rm w w1 V 4 sh sv sc lo ln lc h v c co cn ck y x n bo bn bk f N P Gl Gc Gb) (rm_start 4 sh sv sc lo ln lc h v c co cn ck y x n bo bn bk b1 HXM.out B0') ?_
  clear b1 B0' HXM
  rintro V ⟨zV, b0, b1, xm, B1⟩
  obtain ⟨c0, c1, c2, c3, c4, c5, c6, c7, c8, c9, c10, c11, c12⟩ := op_cells b0
  clear b0
  go_wp2_with fail
  refine (HX.out Gl Gc Gb V xm).mono ?_
  rintro e w2 ⟨zo, K, rfl, nw1, hb⟩
  replace b1 := keepr hb b1
  have B2 := bl_step B1 hb
  clear hb B1
  obtain ⟨d0, d1, d2, d3, d4, d5, d6, d7⟩ := to_cells b1
  obtain ⟨f0, f1, f2, f3, f4, f5, f6, f7⟩ := to_free b1
  have l1 := b1.lt
  have HB1 := hid1 b1
  have NW := hid1 nw1
  clear b1 nw1
  go_wp2_with fail
  have te := (told_end (w := w) (W := V) (y := w2) (th := 0) (tv := 0) (tc := 0) (ao := none) (m := 0) (k := 0) (tn := tn) (po := zo) (p := p) (q := K) (so := none) (s := 0) (t := 0) (e := E) (X := 0) (Y := Y) (g := (fun _ => 0)) HB1.out (by omega) (Nv.nil _ _) NW.out (N8v.nil _ _ _) B2).alloc (.cells #[.int .i64 tn, .slice zo p K] 33)
  obtain ⟨u0, u1, u2, u3, u4, u5, u6, u7⟩ := to_cells te.r
  exact bodyPost_ret (v := tov 0 0 0 none 0 0 tn zo p K none 0 0 E) (by simp [results, Try.results8, go_sem, u0, u1, u2, u3, u4, u5, u6, u7]) rfl ⟨_, _, _, _, _, _, rfl, te.a, te.b, te.l, te.B⟩
set_option maxHeartbeats 3200000 in
set_option maxRecDepth 100000 in
theorem meant5 (sh sv sc : Int) (lo : Option Addr) (ln lc : Nat) (h v c : Int) (co : Option Addr) (cn ck : Nat) (y x n : Int) (bo : Option Addr) (bn bk : Nat) (f : Nat → Int) (N P : Nat) (hl : ln ≤ 140737488351232) (hc : cn ≤ 17592186043904) (hb' : bn ≤ 17592186043904) (tn : Int) (p Y : Nat) (E : Int) (w : World) (rl : Rs w lo ln (fun k => .int .i8 (f k))) (rc : Wr w co cn N) (rb : Wr w bo bn P) (H : ∀ Gl Gc Gb W, Xm W Gl ln f Gc cn N Gb bn P → Calls Try.prog 26 #[cuv h v c (some ⟨Gc, 0, none⟩) cn (cn + 66)] W fun e w' => ∃ zo K, e = .returned (.tuple #[rv tn zo p K, .int .i64 E]) ∧ Nv W w' zo p Y ∧ Below W.heap.size W w') :
    Calls Try.prog 8 #[opv 5 sh sv sc lo ln lc h v c co cn ck y x n bo bn bk] w (RQ w 0 0 0 0 0 tn p Y 0 (fun _ => 0) E) := by
  have HX := hid1 H
  clear H
  have HST := hid1 (rn_start w 5 sh sv sc lo ln lc h v c co cn ck y x n bo bn bk)
  have HAL := hid1 (fun W r1 r2 r3 => alone_any 5 sh sv sc lo ln lc h v c co cn ck y x n bo bn bk f N P W hl hc hb' r1 r2 r3)
  have RL := hid1 rl
  have RC := hid1 rc
  have RB := hid1 rb
  clear rl rc rb
  go_enter Try.func8, Try.ntmps8
  go_upto_region 1 with fail
  refine gen_world (fun W => Rn w W 5 sh sv sc lo ln lc h v c co cn ck y x n bo bn bk) HST.out ?_
  clear HST
  rintro W ⟨z0, b0, b1, B0⟩
  obtain ⟨c0, c1, c2, c3, c4, c5, c6, c7, c8, c9, c10, c11, c12⟩ := op_cells b0
  clear b0
  go_wp2_with fail
  refine (HAL.out W (RL.out.below B0) (RC.out.below B0) (RB.out.below B0)).mono ?_
  rintro e w1 ⟨Gl, Gc, Gb, rfl, _, xm, hb⟩
  replace b1 := keepr hb b1
  have B0' := bl_step B0 hb
  have z1 := hb.size
  clear hb B0 c0 c1 c2 c3 c4 c5 c6 c7 c8 c9 c10 c11 c12
  have HXM := hid1 xm
  clear xm
  go_upto_region 2 with fail
  refine gen_world (fun V => Rm w w1 V 5 sh sv sc lo ln lc h v c co cn ck y x n bo bn bk f N P Gl Gc Gb) (rm_start 5 sh sv sc lo ln lc h v c co cn ck y x n bo bn bk b1 HXM.out B0') ?_
  clear b1 B0' HXM
  rintro V ⟨zV, b0, b1, xm, B1⟩
  obtain ⟨c0, c1, c2, c3, c4, c5, c6, c7, c8, c9, c10, c11, c12⟩ := op_cells b0
  clear b0
  go_wp2_with fail
  refine (HX.out Gl Gc Gb V xm).mono ?_
  rintro e w2 ⟨zo, K, rfl, nw1, hb⟩
  replace b1 := keepr hb b1
  have B2 := bl_step B1 hb
  clear hb B1
  obtain ⟨d0, d1, d2, d3, d4, d5, d6, d7⟩ := to_cells b1
  obtain ⟨f0, f1, f2, f3, f4, f5, f6, f7⟩ := to_free b1
  have l1 := b1.lt
  have HB1 := hid1 b1
  have NW := hid1 nw1
  clear b1 nw1
  go_wp2_with fail
  have te := (told_end (w := w) (W := V) (y := w2) (th := 0) (tv := 0) (tc := 0) (ao := none) (m := 0) (k := 0) (tn := tn) (po := zo) (p := p) (q := K) (so := none) (s := 0) (t := 0) (e := E) (X := 0) (Y := Y) (g := (fun _ => 0)) HB1.out (by omega) (Nv.nil _ _) NW.out (N8v.nil _ _ _) B2).alloc (.cells #[.int .i64 tn, .slice zo p K] 33)
  obtain ⟨u0, u1, u2, u3, u4, u5, u6, u7⟩ := to_cells te.r
  exact bodyPost_ret (v := tov 0 0 0 none 0 0 tn zo p K none 0 0 E) (by simp [results, Try.results8, go_sem, u0, u1, u2, u3, u4, u5, u6, u7]) rfl ⟨_, _, _, _, _, _, rfl, te.a, te.b, te.l, te.B⟩
set_option maxHeartbeats 3200000 in
set_option maxRecDepth 100000 in
theorem meant6 (sh sv sc : Int) (lo : Option Addr) (ln lc : Nat) (h v c : Int) (co : Option Addr) (cn ck : Nat) (y x n : Int) (bo : Option Addr) (bn bk : Nat) (f : Nat → Int) (N P : Nat) (hl : ln ≤ 140737488351232) (hc : cn ≤ 17592186043904) (hb' : bn ≤ 17592186043904) (th tv tc : Int) (m X : Nat) (E : Int) (w : World) (rl : Rs w lo ln (fun k => .int .i8 (f k))) (rc : Wr w co cn N) (rb : Wr w bo bn P) (H : ∀ Gl Gc Gb W, Xm W Gl ln f Gc cn N Gb bn P → Calls Try.prog 27 #[rv n (some ⟨Gb, 0, none⟩) bn (bn + 66)] W fun e w' => ∃ zo K, e = .returned (.tuple #[cuv th tv tc zo m K, .int .i64 E]) ∧ Nv W w' zo m X ∧ Below W.heap.size W w') :
    Calls Try.prog 8 #[opv 6 sh sv sc lo ln lc h v c co cn ck y x n bo bn bk] w (RQ w th tv tc m X 0 0 0 0 (fun _ => 0) E) := by
  have HX := hid1 H
  clear H
  have HST := hid1 (rn_start w 6 sh sv sc lo ln lc h v c co cn ck y x n bo bn bk)
  have HAL := hid1 (fun W r1 r2 r3 => alone_any 6 sh sv sc lo ln lc h v c co cn ck y x n bo bn bk f N P W hl hc hb' r1 r2 r3)
  have RL := hid1 rl
  have RC := hid1 rc
  have RB := hid1 rb
  clear rl rc rb
  go_enter Try.func8, Try.ntmps8
  go_upto_region 1 with fail
  refine gen_world (fun W => Rn w W 6 sh sv sc lo ln lc h v c co cn ck y x n bo bn bk) HST.out ?_
  clear HST
  rintro W ⟨z0, b0, b1, B0⟩
  obtain ⟨c0, c1, c2, c3, c4, c5, c6, c7, c8, c9, c10, c11, c12⟩ := op_cells b0
  clear b0
  go_wp2_with fail
  refine (HAL.out W (RL.out.below B0) (RC.out.below B0) (RB.out.below B0)).mono ?_
  rintro e w1 ⟨Gl, Gc, Gb, rfl, _, xm, hb⟩
  replace b1 := keepr hb b1
  have B0' := bl_step B0 hb
  have z1 := hb.size
  clear hb B0 c0 c1 c2 c3 c4 c5 c6 c7 c8 c9 c10 c11 c12
  have HXM := hid1 xm
  clear xm
  go_upto_region 2 with fail
  refine gen_world (fun V => Rm w w1 V 6 sh sv sc lo ln lc h v c co cn ck y x n bo bn bk f N P Gl Gc Gb) (rm_start 6 sh sv sc lo ln lc h v c co cn ck y x n bo bn bk b1 HXM.out B0') ?_
  clear b1 B0' HXM
  rintro V ⟨zV, b0, b1, xm, B1⟩
  obtain ⟨c0, c1, c2, c3, c4, c5, c6, c7, c8, c9, c10, c11, c12⟩ := op_cells b0
  clear b0
  go_wp2_with fail
  refine (HX.out Gl Gc Gb V xm).mono ?_
  rintro e w2 ⟨zo, K, rfl, nw1, hb⟩
  replace b1 := keepr hb b1
  have B2 := bl_step B1 hb
  clear hb B1
  obtain ⟨d0, d1, d2, d3, d4, d5, d6, d7⟩ := to_cells b1
  obtain ⟨f0, f1, f2, f3, f4, f5, f6, f7⟩ := to_free b1
  have l1 := b1.lt
  have HB1 := hid1 b1
  have NW := hid1 nw1
  clear b1 nw1
  go_wp2_with fail
  have te := (told_end (w := w) (W := V) (y := w2) (th := th) (tv := tv) (tc := tc) (ao := zo) (m := m) (k := K) (tn := 0) (po := none) (p := 0) (q := 0) (so := none) (s := 0) (t := 0) (e := E) (X := X) (Y := 0) (g := (fun _ => 0)) HB1.out (by omega) NW.out (Nv.nil _ _) (N8v.nil _ _ _) B2).alloc (.cells #[.int .i64 th, .int .i64 tv, .int .i64 tc, .slice zo m K] 31)
  obtain ⟨u0, u1, u2, u3, u4, u5, u6, u7⟩ := to_cells te.r
  exact bodyPost_ret (v := tov th tv tc zo m K 0 none 0 0 none 0 0 E) (by simp [results, Try.results8, go_sem, u0, u1, u2, u3, u4, u5, u6, u7]) rfl ⟨_, _, _, _, _, _, rfl, te.a, te.b, te.l, te.B⟩
set_option maxHeartbeats 3200000 in
set_option maxRecDepth 100000 in
theorem meant0 (kd sh sv sc : Int) (lo : Option Addr) (ln lc : Nat) (h v c : Int) (co : Option Addr) (cn ck : Nat) (y x n : Int) (bo : Option Addr) (bn bk : Nat) (f : Nat → Int) (N P : Nat) (hl : ln ≤ 140737488351232) (hc : cn ≤ 17592186043904) (hb' : bn ≤ 17592186043904) (w : World) (rl : Rs w lo ln (fun k => .int .i8 (f k))) (rc : Wr w co cn N) (rb : Wr w bo bn P) (h1 : ¬ kd = 1) (h2 : ¬ kd = 2) (h3 : ¬ kd = 3) (h4 : ¬ kd = 4) (h5 : ¬ kd = 5) (h6 : ¬ kd = 6) :
    Calls Try.prog 8 #[opv kd sh sv sc lo ln lc h v c co cn ck y x n bo bn bk] w (RQ w 0 0 0 0 0 0 0 0 0 (fun _ => 0) 0) := by
  have HST := hid1 (rn_start w kd sh sv sc lo ln lc h v c co cn ck y x n bo bn bk)
  have HAL := hid1 (fun W r1 r2 r3 => alone_any kd sh sv sc lo ln lc h v c co cn ck y x n bo bn bk f N P W hl hc hb' r1 r2 r3)
  have RL := hid1 rl
  have RC := hid1 rc
  have RB := hid1 rb
  clear rl rc rb
  go_enter Try.func8, Try.ntmps8
  go_upto_region 1 with fail
  refine gen_world (fun W => Rn w W kd sh sv sc lo ln lc h v c co cn ck y x n bo bn bk) HST.out ?_
  clear HST
  rintro W ⟨z0, b0, b1, B0⟩
  obtain ⟨c0, c1, c2, c3, c4, c5, c6, c7, c8, c9, c10, c11, c12⟩ := op_cells b0
  clear b0
  go_wp2_with fail
  refine (HAL.out W (RL.out.below B0) (RC.out.below B0) (RB.out.below B0)).mono ?_
  rintro e w1 ⟨Gl, Gc, Gb, rfl, _, xm, hb⟩
  replace b1 := keepr hb b1
  have B0' := bl_step B0 hb
  have z1 := hb.size
  clear hb B0 c0 c1 c2 c3 c4 c5 c6 c7 c8 c9 c10 c11 c12
  have HXM := hid1 xm
  clear xm
  go_upto_region 2 with fail
  refine gen_world (fun V => Rm w w1 V kd sh sv sc lo ln lc h v c co cn ck y x n bo bn bk f N P Gl Gc Gb) (rm_start kd sh sv sc lo ln lc h v c co cn ck y x n bo bn bk b1 HXM.out B0') ?_
  clear b1 B0' HXM
  rintro V ⟨zV, b0, b1, xm, B1⟩
  obtain ⟨c0, c1, c2, c3, c4, c5, c6, c7, c8, c9, c10, c11, c12⟩ := op_cells b0
  clear b0
  obtain ⟨d0, d1, d2, d3, d4, d5, d6, d7⟩ := to_cells b1
  obtain ⟨f0, f1, f2, f3, f4, f5, f6, f7⟩ := to_free b1
  have l1 := b1.lt
  have HB1 := hid1 b1
  clear b1
  go_wp2_with fail
  have te := told_end (w := w) (W := V) (y := V) (th := 0) (tv := 0) (tc := 0) (ao := none) (m := 0) (k := 0) (tn := 0) (po := none) (p := 0) (q := 0) (so := none) (s := 0) (t := 0) (e := 0) (X := 0) (Y := 0) (g := fun _ => 0) HB1.out (by omega) (Nv.nil _ _) (Nv.nil _ _) (N8v.nil _ _ _) B1
  obtain ⟨u0, u1, u2, u3, u4, u5, u6, u7⟩ := to_cells te.r
  exact bodyPost_ret (v := tov 0 0 0 none 0 0 0 none 0 0 none 0 0 0) (by simp [results, Try.results8, go_sem, u0, u1, u2, u3, u4, u5, u6, u7]) rfl ⟨_, _, _, _, _, _, rfl, te.a, te.b, te.l, te.B⟩
/-- BOTH SIDES OF A STEP AS ONE. -/
theorem both_any (kd sh sv sc : Int) (lo : Option Addr) (ln lc : Nat) (h v c : Int) (co : Option Addr) (cn ck : Nat) (y x n : Int) (bo : Option Addr) (bn bk : Nat) (l : List Int) (N P : Nat) (hl : l.length = ln) (h1 : ln ≤ 140737488351232) (h2 : cn ≤ 17592186043904) (h3 : bn ≤ 17592186043904) (k1 : ln ≤ lc ∧ lc ≤ 9223372036854775807) (k2 : cn ≤ ck ∧ ck ≤ 9223372036854775807) :
    ∃ (th tv tc : Int) (m X : Nat) (tn : Int) (p Y s : Nat) (g : Nat → Int) (E : Int), (m ≤ 9223372036854775807 ∧ p ≤ 9223372036854775807 ∧ s ≤ 9223372036854775807) ∧
      (∀ w, Rs w lo ln (fun k => .int .i8 (ia l k)) → Wr w co cn N → Wr w bo bn P → Calls Try.prog 7 #[opv kd sh sv sc lo ln lc h v c co cn ck y x n bo bn bk] w (RQ w th tv tc m X tn p Y s g E)) ∧
      (∀ w, Rs w lo ln (fun k => .int .i8 (ia l k)) → Wr w co cn N → Wr w bo bn P → Calls Try.prog 8 #[opv kd sh sv sc lo ln lc h v c co cn ck y x n bo bn bk] w (RQ w th tv tc m X tn p Y s g E)) := by
  by_cases e1 : kd = 1
  · subst e1
    obtain ⟨E, hE⟩ : ∃ E, pE sh sv sc ln = E := ⟨_, rfl⟩
    obtain ⟨⟨a, b, d, mm, X⟩, hS⟩ : ∃ q, pS sh sv sc l ln = q := ⟨_, rfl⟩
    exact ⟨a, b, d, mm, X, 0, 0, 0, 0, _, E, ⟨pS_le hS, by omega, by omega⟩, fun w r1 r2 r3 => ran1 _ _ _ _ _ _ _ _ _ _ _ _ _ _ _ _ _ _ a b d mm X E w (fun W B => pack_allN sh sv sc l ln hl lo lc W k1.1 k1.2 (rs_r8 hl (r1.below B)) a b d mm X E hE hS),
      fun w r1 r2 r3 => meant1 _ _ _ _ _ _ _ _ _ _ _ _ _ _ _ _ _ _ (ia l) N P h1 h2 h3 a b d mm X E w r1 r2 r3 (fun Gl Gc Gb W xm => rpack_allN sh sv sc l ln hl _ _ W (rs_r8 hl (rv_rs xm.l)) a b d mm X E hE hS)⟩
  by_cases e2 : kd = 2
  · subst e2
    obtain ⟨E, hE⟩ : ∃ E, cuk h v c cn N = E := ⟨_, rfl⟩
    obtain ⟨s, hT⟩ : ∃ q, uT h v c cn N = q := ⟨_, rfl⟩
    exact ⟨0, 0, 0, 0, 0, 0, 0, 0, s, uv N c.toNat, E, ⟨by omega, by omega, by have := uT_le h v c cn N; omega⟩, fun w r1 r2 r3 => ran2 _ _ _ _ _ _ _ _ _ _ _ _ _ _ _ _ _ _ s _ E w (fun W B => unpack_allN h v c co cn ck N W k2.1 k2.2 (r2.below B) E s hE hT),
      fun w r1 r2 r3 => meant2 _ _ _ _ _ _ _ _ _ _ _ _ _ _ _ _ _ _ (ia l) N P h1 h2 h3 s _ E w r1 r2 r3 (fun Gl Gc Gb W xm => runpack_allN h v c _ cn _ N W (rm_wr xm.c xm.hN) E s hE hT)⟩
  by_cases e3 : kd = 3
  · subst e3
    exact ⟨0, 0, 0, 0, 0, 0, 0, 0, 0, fun _ => 0, cuk h v c cn N, ⟨by omega, by omega, by omega⟩, fun w r1 r2 r3 => ran3 _ _ _ _ _ _ _ _ _ _ _ _ _ _ _ _ _ _ _ w (fun W B => ccheck_any h v c co cn ck N W k2.1 k2.2 (r2.below B)),
      fun w r1 r2 r3 => meant3 _ _ _ _ _ _ _ _ _ _ _ _ _ _ _ _ _ _ (ia l) N P h1 h2 h3 _ w r1 r2 r3 (fun Gl Gc Gb W xm => rccheck_any h v c _ cn _ N W (rm_wr xm.c xm.hN))⟩
  by_cases e4 : kd = 4
  · subst e4
    obtain ⟨E, hE⟩ : ∃ E, atE h v c y x cn N = E := ⟨_, rfl⟩
    obtain ⟨⟨tn, p, Y⟩, hS⟩ : ∃ q, aS h v c y x cn N = q := ⟨_, rfl⟩
    exact ⟨0, 0, 0, 0, 0, tn, p, Y, 0, fun _ => 0, E, ⟨by omega, by have := aS_le hS; omega, by omega⟩, fun w r1 r2 r3 => ran4 _ _ _ _ _ _ _ _ _ _ _ _ _ _ _ _ _ _ tn p Y E w (fun W B => (at_all h v c y x co cn ck N W k2.1 k2.2 (r2.below B) E tn p Y hE hS).mono fun e w' ⟨zo, K, q1, q2, q3, q4⟩ => ⟨zo, K, q1, ⟨q2, q3⟩, q4⟩),
      fun w r1 r2 r3 => meant4 _ _ _ _ _ _ _ _ _ _ _ _ _ _ _ _ _ _ (ia l) N P h1 h2 h3 tn p Y E w r1 r2 r3 (fun Gl Gc Gb W xm => (rat_all h v c y x _ cn _ N W (rm_wr xm.c xm.hN) E tn p Y hE hS).mono fun e w' ⟨zo, K, q1, q2, q3, q4⟩ => ⟨zo, K, q1, ⟨q2, q3⟩, q4⟩)⟩
  by_cases e5 : kd = 5
  · subst e5
    obtain ⟨E, hE⟩ : ∃ E, cuk h v c cn N = E := ⟨_, rfl⟩
    obtain ⟨⟨tn, p, Y⟩, hS⟩ : ∃ q, fS h v c cn N = q := ⟨_, rfl⟩
    exact ⟨0, 0, 0, 0, 0, tn, p, Y, 0, fun _ => 0, E, ⟨by omega, by have := fS_le hS; omega, by omega⟩, fun w r1 r2 r3 => ran5 _ _ _ _ _ _ _ _ _ _ _ _ _ _ _ _ _ _ tn p Y E w (fun W B => flat_allN h v c co cn ck N W k2.1 k2.2 (r2.below B) E tn p Y hE hS),
      fun w r1 r2 r3 => meant5 _ _ _ _ _ _ _ _ _ _ _ _ _ _ _ _ _ _ (ia l) N P h1 h2 h3 tn p Y E w r1 r2 r3 (fun Gl Gc Gb W xm => rflat_allN h v c _ cn _ N W (rm_wr xm.c xm.hN) E tn p Y hE hS)⟩
  by_cases e6 : kd = 6
  · subst e6
    obtain ⟨E, hE⟩ : ∃ E, tuE n bn P = E := ⟨_, rfl⟩
    obtain ⟨⟨a, b, d, mm, X⟩, hS⟩ : ∃ q, tS n bn P = q := ⟨_, rfl⟩
    exact ⟨a, b, d, mm, X, 0, 0, 0, 0, _, E, ⟨tS_le (by omega) hS, by omega, by omega⟩, fun w r1 r2 r3 => ran6 _ _ _ _ _ _ _ _ _ _ _ _ _ _ _ _ _ _ a b d mm X E w (fun W B => turn_allN n bo bn bk P W (by omega) (r3.below B) a b d mm X E hE hS),
      fun w r1 r2 r3 => meant6 _ _ _ _ _ _ _ _ _ _ _ _ _ _ _ _ _ _ (ia l) N P h1 h2 h3 a b d mm X E w r1 r2 r3 (fun Gl Gc Gb W xm => rturn_allN n _ bn _ P W (rm_wr xm.b xm.hP) a b d mm X E hE hS)⟩
  exact ⟨0, 0, 0, 0, 0, 0, 0, 0, 0, fun _ => 0, 0, ⟨by omega, by omega, by omega⟩, fun w r1 r2 r3 => ran0 _ _ _ _ _ _ _ _ _ _ _ _ _ _ _ _ _ _ _ w e1 e2 e3 e4 e5 e6, fun w r1 r2 r3 => meant0 _ _ _ _ _ _ _ _ _ _ _ _ _ _ _ _ _ _ _ (ia l) N P h1 h2 h3 w r1 r2 r3 e1 e2 e3 e4 e5 e6⟩
end Go.Proofs.Ytfboegdibohciaa
/- CubeScript: other, agree, size. -/
namespace Go.Proofs.Ytfboegdibohciaa
open Go.RowKit Go.Shelf

theorem wd_two (i k : Nat) : wd (2 ^ i) k = if k = i / 64 then 2 ^ (i % 64) else 0 := by
  have h := or_wd 0 i k
  rw [Nat.zero_or] at h
  rw [h, wd_zero]
  split
  · rw [Nat.zero_or]
  · rfl
theorem xor_wdK (N i k : Nat) : wd (N ^^^ 2 ^ i) k = if k = i / 64 then wd N k ^^^ 2 ^ (i % 64) else wd N k := by
  rw [wd_xor, wd_two]
  split
  · rfl
  · rw [Nat.xor_zero]
/-- A list with one bit turned. -/
theorem rmf_flip {N n j sh : Nat} (hj : j < n) (hs : sh < 64) (k : Nat) : (if k = j then .int .u64 ((wd N j ^^^ 2 ^ sh : Nat) : Int) else rmf N n k) = rmf (N ^^^ 2 ^ (64 * j + sh)) n k := by
  have e1 : (64 * j + sh) / 64 = j := by omega
  have e2 : (64 * j + sh) % 64 = sh := by omega
  unfold rmf
  by_cases e : k = j
  · subst e
    rw [if_pos rfl, if_pos hj]
    unfold wf
    rw [xor_wdK, e1, e2, if_pos rfl]
  · rw [if_neg e]
    by_cases h : k < n
    · rw [if_pos h, if_pos h]
      unfold wf
      rw [xor_wdK, e1, if_neg e]
    · rw [if_neg h, if_neg h]
theorem flip_lt {N n j sh : Nat} (hN : N < 2 ^ (64 * n)) (hj : j < n) (hs : sh < 64) : N ^^^ 2 ^ (64 * j + sh) < 2 ^ (64 * n) :=
  Nat.xor_lt_two_pow hN (Nat.pow_lt_pow_right (by decide) (by omega))
/-- Nothing old has turned but three blocks. -/
structure F3 (a b c : Nat) (w w' : World) : Prop where
  os : w'.os = w.os
  tape : w'.tape = w.tape
  output : w'.output = w.output
  size : w.heap.size ≤ w'.heap.size
  block : ∀ k, k < w.heap.size → k ≠ a → k ≠ b → k ≠ c → w'.heap[k]? = w.heap[k]?
theorem F3.of_below {a b c : Nat} {w w' : World} (h : Below w.heap.size w w') : F3 a b c w w' := ⟨h.os, h.tape, h.output, h.size, fun k hk _ _ _ => h.block k hk⟩
theorem F3.but {a b c G : Nat} {w W W' : World} (h : F3 a b c w W) (hb : But G W W') (hG : G = a ∨ G = b ∨ G = c ∨ w.heap.size ≤ G) : F3 a b c w W' :=
  ⟨hb.os.trans h.os, hb.tape.trans h.tape, hb.output.trans h.output, Nat.le_trans h.size hb.size, fun k hk h1 h2 h3 => (hb.block k (Nat.lt_of_lt_of_le hk h.size) (by omega)).trans (h.block k hk h1 h2 h3)⟩
theorem F3.below {a b c : Nat} {w W W' : World} (h : F3 a b c w W) (hb : Below W.heap.size W W') : F3 a b c w W' :=
  ⟨hb.os.trans h.os, hb.tape.trans h.tape, hb.output.trans h.output, Nat.le_trans h.size hb.size, fun k hk h1 h2 h3 => (hb.block k (Nat.lt_of_lt_of_le hk h.size)).trans (h.block k hk h1 h2 h3)⟩
theorem F3.row {a b c g t n : Nat} {f : Nat → Value} {w W : World} (h : F3 a b c w W) (r : w.rowIs g t n f) (h1 : g ≠ a) (h2 : g ≠ b) (h3 : g ≠ c) : W.rowIs g t n f := r.of_block (h.block g r.lt h1 h2 h3)
theorem rows_neK {w : World} {a b t u n m : Nat} {f g : Nat → Value} (r : w.rowIs a t n f) (q : w.rowIs b u m g) (ht : t ≠ u) : a ≠ b := by
  intro e
  subst e
  obtain ⟨c, hc, _⟩ := r
  obtain ⟨c', hc', _⟩ := q
  rw [hc] at hc'
  injection hc' with hc'
  injection hc' with _ h2 _
  exact ht h2
theorem But.drewK {g : Nat} {w w' : World} (h : But g w w') : But g w w'.drew := h.drewN 1
/-- What other has in memory. -/
structure Ox (w W : World) (L0 C0 B0 : Nat) (kd sh sv sc h v c y x n : Int) (Gl Gc Gb ln cn bn N P : Nat) (l : List Int) : Prop where
  op : W.rowIs w.heap.size 35 13 (opf kd sh sv sc (some ⟨Gl, 0, none⟩) ln (ln + 66) h v c (some ⟨Gc, 0, none⟩) cn (cn + 66) y x n (some ⟨Gb, 0, none⟩) bn (bn + 66))
  re : W.rowIs (w.heap.size + 1) 35 13 (opf 0 0 0 0 none 0 0 0 0 0 none 0 0 0 0 0 none 0 0)
  xm : Xm W Gl ln (ia l) Gc cn N Gb bn P
  hl : l.length = ln
  nl : Gl = L0 ∨ w.heap.size + 1 < Gl
  nc : Gc = C0 ∨ w.heap.size + 1 < Gc
  nb : Gb = B0 ∨ w.heap.size + 1 < Gb
  zl : L0 < w.heap.size
  zc : C0 < w.heap.size
  zb : B0 < w.heap.size
  fb : F3 L0 C0 B0 w W
theorem Ox.step {w W : World} {L0 C0 B0 : Nat} {kd sh sv sc h v c y x n : Int} {Gl Gc Gb ln cn bn N P : Nat} {l : List Int} (k : Ox w W L0 C0 B0 kd sh sv sc h v c y x n Gl Gc Gb ln cn bn N P l) (o : Nat) (z : Value) {kd' c' y' x' n' : Int} (hr : (W.setCell ⟨w.heap.size, o, none⟩ z).rowIs w.heap.size 35 13 (opf kd' sh sv sc (some ⟨Gl, 0, none⟩) ln (ln + 66) h v c' (some ⟨Gc, 0, none⟩) cn (cn + 66) y' x' n' (some ⟨Gb, 0, none⟩) bn (bn + 66))) : Ox w (W.setCell ⟨w.heap.size, o, none⟩ z) L0 C0 B0 kd' sh sv sc h v c' y' x' n' Gl Gc Gb ln cn bn N P l := by
  have bt : But w.heap.size W (W.setCell ⟨w.heap.size, o, none⟩ z) := (But.refl _ _).set _
  have h1 := k.nl
  have h2 := k.nc
  have h3 := k.nb
  have z1 := k.zl
  have z2 := k.zc
  have z3 := k.zb
  exact ⟨hr, bt.row (by omega) k.re, ⟨bt.row (by omega) k.xm.l, bt.row (by omega) k.xm.c, bt.row (by omega) k.xm.b, k.xm.ne, k.xm.hN, k.xm.hP, k.xm.l1, k.xm.c1, k.xm.b1⟩, k.hl, h1, h2, h3, z1, z2, z3, k.fb.but bt (.inr (.inr (.inr (Nat.le_refl _))))⟩
theorem rvf_put {l : List Int} {ln j : Nat} (hl : l.length = ln) (hj : j < ln) (z : Int) (i : Nat) : (if i = j then .int .i8 z else rvf (ia l) ln i) = rvf (ia (l.set j z)) ln i := by
  unfold rvf ia
  by_cases e : i = j
  · subst e
    rw [if_pos rfl, if_pos hj]
    congr 1
    rw [List.getD_eq_getElem?_getD, List.getElem?_set_self (by omega)]
    rfl
  · rw [if_neg e]
    by_cases h : i < ln
    · rw [if_pos h, if_pos h]
      congr 1
      rw [List.getD_eq_getElem?_getD, List.getD_eq_getElem?_getD, List.getElem?_set_ne (by omega)]
    · rw [if_neg h, if_neg h]
theorem Ox.setL {w W : World} {L0 C0 B0 : Nat} {kd sh sv sc h v c y x n : Int} {Gl Gc Gb ln cn bn N P : Nat} {l : List Int} (k : Ox w W L0 C0 B0 kd sh sv sc h v c y x n Gl Gc Gb ln cn bn N P l) {j : Nat} (hj : j < ln) (z : Int) : Ox w (W.drew.setCell ⟨Gl, j, none⟩ (.int .i8 z)) L0 C0 B0 kd sh sv sc h v c y x n Gl Gc Gb ln cn bn N P (l.set j z) := by
  have bt : But Gl W (W.drew.setCell ⟨Gl, j, none⟩ (.int .i8 z)) := (But.refl Gl W).drewK.set _
  have h1 := k.nl
  have z1 := k.zl
  have d1 := rows_neK k.xm.c k.xm.l (by decide)
  have d2 := rows_neK k.xm.b k.xm.l (by decide)
  exact ⟨bt.row (by omega) k.op, bt.row (by omega) k.re, ⟨(k.xm.l.drew.set j _).congr fun i _ => rvf_put k.hl hj z i, bt.row d1 k.xm.c, bt.row d2 k.xm.b, k.xm.ne, k.xm.hN, k.xm.hP, k.xm.l1, k.xm.c1, k.xm.b1⟩, by rw [List.length_set]; exact k.hl, h1, k.nc, k.nb, z1, k.zc, k.zb, k.fb.but bt (by omega)⟩
theorem Ox.setC {w W : World} {L0 C0 B0 : Nat} {kd sh sv sc h v c y x n : Int} {Gl Gc Gb ln cn bn N P : Nat} {l : List Int} (k : Ox w W L0 C0 B0 kd sh sv sc h v c y x n Gl Gc Gb ln cn bn N P l) {j N' nv : Nat} (hf : ∀ i, (if i = j then .int .u64 ((nv : Nat) : Int) else rmf N cn i) = rmf N' cn i) (hl : N' < 2 ^ (64 * cn)) {z : Int} (hz : z = (nv : Nat)) : Ox w (W.drew.setCell ⟨Gc, j, none⟩ (.int .u64 z)) L0 C0 B0 kd sh sv sc h v c y x n Gl Gc Gb ln cn bn N' P l := by
  subst hz
  have bt : But Gc W (W.drew.setCell ⟨Gc, j, none⟩ (.int .u64 (nv : Nat))) := (But.refl Gc W).drewK.set _
  have h1 := k.nc
  have z1 := k.zc
  have d1 := rows_neK k.xm.l k.xm.c (by decide)
  exact ⟨bt.row (by omega) k.op, bt.row (by omega) k.re, ⟨bt.row d1 k.xm.l, (k.xm.c.drew.set j _).congr fun i _ => hf i, bt.row (Ne.symm k.xm.ne) k.xm.b, k.xm.ne, hl, k.xm.hP, k.xm.l1, k.xm.c1, k.xm.b1⟩, k.hl, k.nl, h1, k.nb, k.zl, z1, k.zb, k.fb.but bt (by omega)⟩
theorem Ox.setB {w W : World} {L0 C0 B0 : Nat} {kd sh sv sc h v c y x n : Int} {Gl Gc Gb ln cn bn N P : Nat} {l : List Int} (k : Ox w W L0 C0 B0 kd sh sv sc h v c y x n Gl Gc Gb ln cn bn N P l) {j P' nv : Nat} (hf : ∀ i, (if i = j then .int .u64 ((nv : Nat) : Int) else rmf P bn i) = rmf P' bn i) (hl : P' < 2 ^ (64 * bn)) {z : Int} (hz : z = (nv : Nat)) : Ox w (W.drew.setCell ⟨Gb, j, none⟩ (.int .u64 z)) L0 C0 B0 kd sh sv sc h v c y x n Gl Gc Gb ln cn bn N P' l := by
  subst hz
  have bt : But Gb W (W.drew.setCell ⟨Gb, j, none⟩ (.int .u64 (nv : Nat))) := (But.refl Gb W).drewK.set _
  have h1 := k.nb
  have z1 := k.zb
  have d1 := rows_neK k.xm.l k.xm.b (by decide)
  exact ⟨bt.row (by omega) k.op, bt.row (by omega) k.re, ⟨bt.row d1 k.xm.l, bt.row k.xm.ne k.xm.c, (k.xm.b.drew.set j _).congr fun i _ => hf i, k.xm.ne, k.xm.hN, hl, k.xm.l1, k.xm.c1, k.xm.b1⟩, k.hl, k.nl, k.nc, h1, k.zl, k.zc, z1, k.fb.but bt (by omega)⟩
/-- What other answers. -/
def OtQ (w : World) (sh sv sc h v : Int) (L0 C0 B0 ln cn bn : Nat) (e : Ending) (w' : World) : Prop := ∃ (kd c y x n : Int) (Gl Gc Gb N P : Nat) (l : List Int), e = .returned (opv kd sh sv sc (some ⟨Gl, 0, none⟩) ln (ln + 66) h v c (some ⟨Gc, 0, none⟩) cn (cn + 66) y x n (some ⟨Gb, 0, none⟩) bn (bn + 66)) ∧ l.length = ln ∧ ((Gl = L0 ∨ w.heap.size ≤ Gl) ∧ (Gc = C0 ∨ w.heap.size ≤ Gc) ∧ (Gb = B0 ∨ w.heap.size ≤ Gb)) ∧ Xm w' Gl ln (ia l) Gc cn N Gb bn P ∧ F3 L0 C0 B0 w w'
theorem ot_end {w X9 : World} {L0 C0 B0 : Nat} {kd sh sv sc h v c y x n : Int} {Gl Gc Gb ln cn bn N P : Nat} {l : List Int} (k : Ox w X9 L0 C0 B0 kd sh sv sc h v c y x n Gl Gc Gb ln cn bn N P l) : OtQ w sh sv sc h v L0 C0 B0 ln cn bn (.returned (opv kd sh sv sc (some ⟨Gl, 0, none⟩) ln (ln + 66) h v c (some ⟨Gc, 0, none⟩) cn (cn + 66) y x n (some ⟨Gb, 0, none⟩) bn (bn + 66))) ((((((((((((((X9.setCell ⟨w.heap.size + 1, 0, none⟩ (.int .i64 kd)).setCell ⟨w.heap.size + 1, 1, none⟩ (.int .i64 sh)).setCell ⟨w.heap.size + 1, 2, none⟩ (.int .i64 sv)).setCell ⟨w.heap.size + 1, 3, none⟩ (.int .i64 sc)).setCell ⟨w.heap.size + 1, 4, none⟩ (.slice (some ⟨Gl, 0, none⟩) ln (ln + 66))).setCell ⟨w.heap.size + 1, 5, none⟩ (.int .i64 h)).setCell ⟨w.heap.size + 1, 6, none⟩ (.int .i64 v)).setCell ⟨w.heap.size + 1, 7, none⟩ (.int .i64 c)).setCell ⟨w.heap.size + 1, 8, none⟩ (.slice (some ⟨Gc, 0, none⟩) cn (cn + 66))).setCell ⟨w.heap.size + 1, 9, none⟩ (.int .i64 y)).setCell ⟨w.heap.size + 1, 10, none⟩ (.int .i64 x)).setCell ⟨w.heap.size + 1, 11, none⟩ (.int .i64 n)).setCell ⟨w.heap.size + 1, 12, none⟩ (.slice (some ⟨Gb, 0, none⟩) bn (bn + 66)))) := by
  have bt := But.setop (w.heap.size + 1) X9 kd sh sv sc (some ⟨Gl, 0, none⟩) ln (ln + 66) h v c (some ⟨Gc, 0, none⟩) cn (cn + 66) y x n (some ⟨Gb, 0, none⟩) bn (bn + 66)
  have zl := k.zl
  have zc := k.zc
  have zb := k.zb
  have nl := k.nl
  have nc := k.nc
  have nb := k.nb
  exact ⟨kd, c, y, x, n, Gl, Gc, Gb, N, P, l, rfl, k.hl, ⟨by omega, by omega, by omega⟩, ⟨bt.row (by omega) k.xm.l, bt.row (by omega) k.xm.c, bt.row (by omega) k.xm.b, k.xm.ne, k.xm.hN, k.xm.hP, k.xm.l1, k.xm.c1, k.xm.b1⟩, k.fb.but bt (.inr (.inr (.inr (by omega))))⟩
/-- The number that turns a step. -/
def kN (kk : Int) : Nat := (if kk < 0 then -(kk + 1) else kk).toNat
theorem op_put0 {w : World} {g T : Nat} {kd sh sv sc : Int} {lo : Option Addr} {ln lc : Nat} {h v c : Int} {co : Option Addr} {cn ck : Nat} {y x n : Int} {bo : Option Addr} {bn bk : Nat} (hr : w.rowIs g T 13 (opf kd sh sv sc lo ln lc h v c co cn ck y x n bo bn bk)) (z : Int) : (w.setCell ⟨g, 0, none⟩ (.int .i64 z)).rowIs g T 13 (opf z sh sv sc lo ln lc h v c co cn ck y x n bo bn bk) :=
  (hr.set 0 _).congr fun j hj => by
    rcases j with _ | _ | _ | _ | _ | _ | _ | _ | _ | _ | _ | _ | _ | j
    all_goals first | rfl | omega
theorem op_put7 {w : World} {g T : Nat} {kd sh sv sc : Int} {lo : Option Addr} {ln lc : Nat} {h v c : Int} {co : Option Addr} {cn ck : Nat} {y x n : Int} {bo : Option Addr} {bn bk : Nat} (hr : w.rowIs g T 13 (opf kd sh sv sc lo ln lc h v c co cn ck y x n bo bn bk)) (z : Int) : (w.setCell ⟨g, 7, none⟩ (.int .i64 z)).rowIs g T 13 (opf kd sh sv sc lo ln lc h v z co cn ck y x n bo bn bk) :=
  (hr.set 7 _).congr fun j hj => by
    rcases j with _ | _ | _ | _ | _ | _ | _ | _ | _ | _ | _ | _ | _ | j
    all_goals first | rfl | omega
theorem op_put9 {w : World} {g T : Nat} {kd sh sv sc : Int} {lo : Option Addr} {ln lc : Nat} {h v c : Int} {co : Option Addr} {cn ck : Nat} {y x n : Int} {bo : Option Addr} {bn bk : Nat} (hr : w.rowIs g T 13 (opf kd sh sv sc lo ln lc h v c co cn ck y x n bo bn bk)) (z : Int) : (w.setCell ⟨g, 9, none⟩ (.int .i64 z)).rowIs g T 13 (opf kd sh sv sc lo ln lc h v c co cn ck z x n bo bn bk) :=
  (hr.set 9 _).congr fun j hj => by
    rcases j with _ | _ | _ | _ | _ | _ | _ | _ | _ | _ | _ | _ | _ | j
    all_goals first | rfl | omega
theorem op_put10 {w : World} {g T : Nat} {kd sh sv sc : Int} {lo : Option Addr} {ln lc : Nat} {h v c : Int} {co : Option Addr} {cn ck : Nat} {y x n : Int} {bo : Option Addr} {bn bk : Nat} (hr : w.rowIs g T 13 (opf kd sh sv sc lo ln lc h v c co cn ck y x n bo bn bk)) (z : Int) : (w.setCell ⟨g, 10, none⟩ (.int .i64 z)).rowIs g T 13 (opf kd sh sv sc lo ln lc h v c co cn ck y z n bo bn bk) :=
  (hr.set 10 _).congr fun j hj => by
    rcases j with _ | _ | _ | _ | _ | _ | _ | _ | _ | _ | _ | _ | _ | j
    all_goals first | rfl | omega
theorem op_put11 {w : World} {g T : Nat} {kd sh sv sc : Int} {lo : Option Addr} {ln lc : Nat} {h v c : Int} {co : Option Addr} {cn ck : Nat} {y x n : Int} {bo : Option Addr} {bn bk : Nat} (hr : w.rowIs g T 13 (opf kd sh sv sc lo ln lc h v c co cn ck y x n bo bn bk)) (z : Int) : (w.setCell ⟨g, 11, none⟩ (.int .i64 z)).rowIs g T 13 (opf kd sh sv sc lo ln lc h v c co cn ck y x z bo bn bk) :=
  (hr.set 11 _).congr fun j hj => by
    rcases j with _ | _ | _ | _ | _ | _ | _ | _ | _ | _ | _ | _ | _ | j
    all_goals first | rfl | omega
set_option maxHeartbeats 3200000 in
set_option maxRecDepth 100000 in
theorem agree_true (th tv tc : Int) (m X : Nat) (tn : Int) (p Y s : Nat) (g : Nat → Int) (e : Int) (ao : Option Addr) (k : Nat) (po : Option Addr) (q : Nat) (so : Option Addr) (t : Nat) (ao' : Option Addr) (k' : Nat) (po' : Option Addr) (q' : Nat) (so' : Option Addr) (t' : Nat) (w : World) (hm : m ≤ 9223372036854775807 ∧ p ≤ 9223372036854775807 ∧ s ≤ 9223372036854775807)
    (r1 : Wr w ao m X) (r2 : Wr w po p Y) (r3 : Rs w so s (fun k => .int .i8 (g k))) (u1 : Wr w ao' m X) (u2 : Wr w po' p Y) (u3 : Rs w so' s (fun k => .int .i8 (g k))) :
    Calls Try.prog 9 #[tov th tv tc ao m k tn po p q so s t e, tov th tv tc ao' m k' tn po' p q' so' s t' e] w fun e' w' => e' = .returned (.bool true) ∧ Below w.heap.size w w' := by
  have R1 := hid1 r1
  have R2 := hid1 r2
  have R3 := hid1 r3
  have U1 := hid1 u1
  have U2 := hid1 u2
  have U3 := hid1 u3
  clear r1 r2 r3 u1 u2 u3
  have HST : Hid (((w.alloc (too th tv tc ao m k tn po p q so s t e)).alloc (too th tv tc ao' m k' tn po' p q' so' s t' e)).rowIs w.heap.size 40 8 (tof th tv tc ao m k tn po p q so s t e) ∧ ((w.alloc (too th tv tc ao m k tn po p q so s t e)).alloc (too th tv tc ao' m k' tn po' p q' so' s t' e)).rowIs (w.heap.size + 1) 40 8 (tof th tv tc ao' m k' tn po' p q' so' s t' e) ∧ Below w.heap.size w ((w.alloc (too th tv tc ao m k tn po p q so s t e)).alloc (too th tv tc ao' m k' tn po' p q' so' s t' e))) := by
    refine hid1 ⟨(to_new w _ _ _ _ _ _ _ _ _ _ _ _ _ _).alloc _, ?_, bl_alloc (bl_alloc (Below.refl _ _) _) _⟩
    have := to_new (w.alloc (too th tv tc ao m k tn po p q so s t e)) th tv tc ao' m k' tn po' p q' so' s t' e
    rw [World.size_alloc] at this
    exact this
  go_enter Try.func9, Try.ntmps9
  go_upto_region 1 with fail
  refine gen_world (fun W => W.rowIs w.heap.size 40 8 (tof th tv tc ao m k tn po p q so s t e) ∧ W.rowIs (w.heap.size + 1) 40 8 (tof th tv tc ao' m k' tn po' p q' so' s t' e) ∧ Below w.heap.size w W) HST.out ?_
  clear HST
  rintro W ⟨a0, b0, B0⟩
  obtain ⟨c0, c1, c2, c3, c4, c5, c6, c7⟩ := to_cells a0
  obtain ⟨d0, d1, d2, d3, d4, d5, d6, d7⟩ := to_cells b0
  go_wp2_with fail
  refine (cubes_same th tv tc m X ao ao' k k' W hm.1 (R1.out.below B0) (U1.out.below B0)).mono ?_
  rintro e1 w1 ⟨rfl, hb⟩
  have B1 := bl_step B0 hb
  replace a0 := keepr hb a0
  replace b0 := keepr hb b0
  clear hb c0 c1 c2 c3 c4 c5 c6 c7 d0 d1 d2 d3 d4 d5 d6 d7 B0
  obtain ⟨c0, c1, c2, c3, c4, c5, c6, c7⟩ := to_cells a0
  obtain ⟨d0, d1, d2, d3, d4, d5, d6, d7⟩ := to_cells b0
  go_wp2_with fail
  refine (rows_same tn p Y po po' q q' w1 hm.2.1 (R2.out.below B1) (U2.out.below B1)).mono ?_
  rintro e1 w2 ⟨rfl, hb⟩
  have B2 := bl_step B1 hb
  replace a0 := keepr hb a0
  replace b0 := keepr hb b0
  clear hb c0 c1 c2 c3 c4 c5 c6 c7 d0 d1 d2 d3 d4 d5 d6 d7 B1
  obtain ⟨c0, c1, c2, c3, c4, c5, c6, c7⟩ := to_cells a0
  obtain ⟨d0, d1, d2, d3, d4, d5, d6, d7⟩ := to_cells b0
  go_wp2_with fail
  refine (vals_same s g so so' t t' w2 hm.2.2 (R3.out.below B2) (U3.out.below B2)).mono ?_
  rintro e1 w3 ⟨rfl, hb⟩
  go_wp2_with fail
  go_ret
  exact ⟨rfl, bl_step B2 hb⟩
set_option maxHeartbeats 3200000 in
set_option maxRecDepth 100000 in
theorem size_any (th tv tc : Int) (ao : Option Addr) (m k : Nat) (tn : Int) (po : Option Addr) (p q : Nat) (so : Option Addr) (s t : Nat) (e : Int) (w : World) :
    Calls Try.prog 10 #[tov th tv tc ao m k tn po p q so s t e] w fun e' w' => ∃ z : Int, e' = .returned (.int .i64 z) ∧ Below w.heap.size w w' := by
  have HST := hid1 (to_new w th tv tc ao m k tn po p q so s t e)
  go_enter Try.func10, Try.ntmps10
  go_upto_region 1 with fail
  refine gen_world (fun W => W.rowIs w.heap.size 40 8 (tof th tv tc ao m k tn po p q so s t e) ∧ Below w.heap.size w W) ⟨HST.out, bl_alloc (Below.refl _ _) _⟩ ?_
  clear HST
  rintro W ⟨a0, B0⟩
  obtain ⟨c0, c1, c2, c3, c4, c5, c6, c7⟩ := to_cells a0
  go_wp2_with fail
  go_ret
  exact ⟨_, rfl, B0⟩
end Go.Proofs.Ytfboegdibohciaa
