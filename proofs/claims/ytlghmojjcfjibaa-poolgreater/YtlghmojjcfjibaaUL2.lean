/- PoolTwice: what is asked of a window with the steps 1. -/
import Derived.Test.YtlghmojjcfjibaaUL1
namespace Go.Proofs.Ytlghmojjcfjibaa
open Go.RowKit Go.Shelf

/-- A window's cells, as a row. -/
def wnf (r s sy sx t l b q : Int) : Nat → Value := fun k => if k = 0 then .int .i64 r else if k = 1 then .int .i64 s else if k = 2 then .int .i64 sy else if k = 3 then .int .i64 sx else if k = 4 then .int .i64 t else if k = 5 then .int .i64 l else if k = 6 then .int .i64 b else .int .i64 q
theorem wnf_new (w : World) (r s sy sx t l b q : Int) (T : TypeId) : (w.alloc (.cells #[.int .i64 r, .int .i64 s, .int .i64 sy, .int .i64 sx, .int .i64 t, .int .i64 l, .int .i64 b, .int .i64 q] T)).rowIs w.heap.size T 8 (wnf r s sy sx t l b q) := by
  refine ⟨_, World.alloc_heap_new _ _, rfl, fun k hk => ?_⟩
  rcases k with _ | _ | _ | _ | _ | _ | _ | _ | k
  all_goals first | rfl | omega
theorem wnf_wn {w : World} {g T : Nat} {r s sy sx t l b q : Int} (h : w.rowIs g T 8 (wnf r s sy sx t l b q)) : Sg.Wn w g 0 r s sy sx t l b q :=
  ⟨h.cell (i := 0) (by omega), h.cell (i := 1) (by omega), h.cell (i := 2) (by omega), h.cell (i := 3) (by omega), h.cell (i := 4) (by omega), h.cell (i := 5) (by omega), h.cell (i := 6) (by omega), h.cell (i := 7) (by omega)⟩
theorem wnf_set {w : World} {g T : Nat} {r s sy sx t l b q : Int} (h : w.rowIs g T 8 (wnf r s sy sx t l b q)) (r' s' sy' sx' t' l' b' q' : Int) :
    ((((((((w.setCell ⟨g, 0, none⟩ (.int .i64 r')).setCell ⟨g, 1, none⟩ (.int .i64 s')).setCell ⟨g, 2, none⟩ (.int .i64 sy')).setCell ⟨g, 3, none⟩ (.int .i64 sx')).setCell ⟨g, 4, none⟩ (.int .i64 t')).setCell ⟨g, 5, none⟩ (.int .i64 l')).setCell ⟨g, 6, none⟩ (.int .i64 b')).setCell ⟨g, 7, none⟩ (.int .i64 q')).rowIs g T 8 (wnf r' s' sy' sx' t' l' b' q') :=
  ((((((((h.set 0 _).set 1 _).set 2 _).set 3 _).set 4 _).set 5 _).set 6 _).set 7 _).congr fun k hk => by
    rcases k with _ | _ | _ | _ | _ | _ | _ | _ | k
    all_goals first | rfl | (simp [wnf]; done) | omega
/-- A cube that may be. -/
structure Qb (H V C m N : Nat) : Prop where
  hH : 1 ≤ H ∧ H ≤ 4096
  hV : 1 ≤ V ∧ V ≤ 4096
  hC : 1 ≤ C ∧ C ≤ 4096
  ck : Sg.chk H V C = 0
  hm : m = H * V * nw C
  pk : Pok (H * V) C N
theorem Qb.pos {H V C m N : Nat} (h : Qb H V C m N) : 0 < m := by
  have d0 : 0 < nw C := by unfold nw; have := h.hC; omega
  rw [h.hm]; exact Nat.mul_pos (Nat.mul_pos h.hH.1 h.hV.1) d0
theorem Qb.pg {H V C m N R S y x : Nat} (h : Qb H V C m N) (hR : 1 ≤ R ∧ R ≤ 15) (hS : 1 ≤ S ∧ S ≤ 15) (hy : 1 ≤ y ∧ y ≤ 15) (hx : 1 ≤ x ∧ x ≤ 15) (f : R ≤ H ∧ S ≤ V) : Pg H V C R S y x m N := ⟨h.hH, h.hV, h.hC, hR, hS, hy, hx, f.1, f.2, h.ck, h.hm, h.pk⟩
theorem Qb.le {H V C m N : Nat} (h : Qb H V C m N) : m ≤ 1073741824 := by rw [h.hm]; exact (wo_bd h.hH.2 h.hV.2 h.hC.2).2
/-- What is answered. -/
def Po (al : Bool) (H V C N R S y x : Nat) (E h v c : Int) (M X : Nat) : Prop :=
  ((R ≤ H ∧ S ≤ V) ∧ E = 0 ∧ h = (oS H R y : Nat) ∧ v = (oS V S x : Nat) ∧ c = C ∧ M = oS H R y * oS V S x * nw C ∧ X = poN al N V (nw C) R S y x (oS V S x) (oS H R y * oS V S x)) ∨ (¬ (R ≤ H ∧ S ≤ V) ∧ E = 32 ∧ h = 0 ∧ v = 0 ∧ c = 0 ∧ M = 0 ∧ X = 0)
theorem Po.same {al al' : Bool} {H V C N N' R S y x : Nat} {E h v c E' h' v' c' : Int} {M X M' X' : Nat} (p : Po al H V C N R S y x E h v c M X) (q : Po al' H V C N' R S y x E' h' v' c' M' X') : E = E' ∧ h = h' ∧ v = v' ∧ c = c' ∧ M = M' := by
  rcases p with ⟨f, p1, p2, p3, p4, p5, -⟩ | ⟨f, p1, p2, p3, p4, p5, -⟩ <;> rcases q with ⟨f', q1, q2, q3, q4, q5, -⟩ | ⟨f', q1, q2, q3, q4, q5, -⟩
  · exact ⟨by omega, by omega, by omega, by omega, by omega⟩
  · exact absurd f f'
  · exact absurd f' f
  · exact ⟨by omega, by omega, by omega, by omega, by omega⟩
theorem Qb.next {al : Bool} {H V C m N R S y x M X : Nat} (h : Qb H V C m N) (hR : 1 ≤ R ∧ R ≤ 15) (hS : 1 ≤ S ∧ S ≤ 15) (hy : 1 ≤ y ∧ y ≤ 15) (hx : 1 ≤ x ∧ x ≤ 15) (f : R ≤ H ∧ S ≤ V) (hM : M = oS H R y * oS V S x * nw C) (hX : X = poN al N V (nw C) R S y x (oS V S x) (oS H R y * oS V S x)) : Qb (oS H R y) (oS V S x) C M X := by
  have pg := h.pg hR hS hy hx f
  exact ⟨⟨oS_pos _ _ _, Nat.le_trans (oS_le f.1 hR.1) h.hH.2⟩, ⟨oS_pos _ _ _, Nat.le_trans (oS_le f.2 hS.1) h.hV.2⟩, h.hC, pg.chk, hM, by rw [hX]; exact pg.pok⟩
theorem Po.twice {al : Bool} {H V C N N1 Rw Sw Rv Sv : Nat} {E h v c E' h' v' c' : Int} {M X M' X' : Nat} (a1 : 1 ≤ Rw) (a2 : 1 ≤ Sw) (a3 : 1 ≤ Rv) (a4 : 1 ≤ Sv) (f : Rw ≤ H ∧ Sw ≤ V) (hN : N1 = poN al N V (nw C) Rw Sw 1 1 (oS V Sw 1) (oS H Rw 1 * oS V Sw 1))
    (p : Po al (oS H Rw 1) (oS V Sw 1) C N1 Rv Sv 1 1 E h v c M X) (q : Po al H V C N (Rv + Rw - 1) (Sv + Sw - 1) 1 1 E' h' v' c' M' X') : E = E' ∧ h = h' ∧ v = v' ∧ c = c' ∧ M = M' ∧ X = X' := by
  have o1 := oS_one f.1
  have o2 := oS_one f.2
  rcases p with ⟨g, p1, p2, p3, p4, p5, p6⟩ | ⟨g, p1, p2, p3, p4, p5, p6⟩ <;> rcases q with ⟨g', q1, q2, q3, q4, q5, q6⟩ | ⟨g', q1, q2, q3, q4, q5, q6⟩
  · have o3 := oS_one g.1
    have o4 := oS_one g.2
    have o5 := oS_one g'.1
    have o6 := oS_one g'.2
    have e1 : oS (oS H Rw 1) Rv 1 = oS H (Rv + Rw - 1) 1 := by omega
    have e2 : oS (oS V Sw 1) Sv 1 = oS V (Sv + Sw - 1) 1 := by omega
    refine ⟨by omega, by omega, by omega, by omega, by rw [p5, q5, e1, e2], ?_⟩
    rw [p6, q6, hN, po_twice a1 a2 a3 a4 o2 o3 o4, e1, e2]
  · exfalso; apply g'; omega
  · exfalso; apply g; omega
  · exact ⟨by omega, by omega, by omega, by omega, by omega, by omega⟩
theorem Po.one {al : Bool} {H V C m N : Nat} (hq : Qb H V C m N) (hN : N < 2 ^ (64 * m)) {E h v c : Int} {M X : Nat} (p : Po al H V C N 1 1 1 1 E h v c M X) : E = 0 ∧ h = H ∧ v = V ∧ c = C ∧ m = M ∧ N = X := by
  have hH := hq.hH
  have hV := hq.hV
  rcases p with ⟨f, p1, p2, p3, p4, p5, p6⟩ | ⟨f, -⟩
  · have o1 := oS_one f.1
    have o2 := oS_one f.2
    have e1 : oS H 1 1 = H := by omega
    have e2 : oS V 1 1 = V := by omega
    rw [e1, e2] at p6
    rw [hq.hm] at hN
    refine ⟨p1, by omega, by omega, p4, by rw [p5, e1, e2, hq.hm], ?_⟩
    rw [p6]; exact (po_one hN).symm
  · exfalso; apply f; omega
theorem po32 {H V C m N R S y x : Nat} (h : Qb H V C m N) (hR : 1 ≤ R ∧ R ≤ 15) (hS : 1 ≤ S ∧ S ≤ 15) (hy : 1 ≤ y ∧ y ≤ 15) (hx : 1 ≤ x ∧ x ≤ 15) (f : ¬ (R ≤ H ∧ S ≤ V)) : poE H V C m N R S y x 0 0 0 0 = 32 := by
  unfold poE
  rw [cuk_of h.ck h.hm h.pk, if_neg (by omega), if_neg (fun k => k.elim (fun k => k (wok_of hR hS hy hx)) (by omega)), sl_of h.ck h.hC hR hS hy hx, if_neg f]
theorem Po.le {al : Bool} {H V C m N R S y x : Nat} {E h v c : Int} {M X : Nat} (hq : Qb H V C m N) (hR : 1 ≤ R ∧ R ≤ 15) (hS : 1 ≤ S ∧ S ≤ 15) (hy : 1 ≤ y ∧ y ≤ 15) (hx : 1 ≤ x ∧ x ≤ 15) (p : Po al H V C N R S y x E h v c M X) : M ≤ 9223372036854775807 := by
  rcases p with ⟨f, -, -, -, -, p5, p6⟩ | ⟨-, -, -, -, -, p5, -⟩
  · have := (hq.next hR hS hy hx f p5 p6).le
    omega
  · omega
theorem Wr.some {w : World} {ao : Option Addr} {m N : Nat} (h : Wr w ao m N) (hm : 0 < m) : ∃ g o, ao = some ⟨g, o, none⟩ := by
  obtain ⟨g, o, e, _⟩ := h.2 0 hm
  exact ⟨g, o, e⟩
theorem Wr.nil (w : World) : Wr w none 0 0 := ⟨by decide, fun k hk => absurd hk (Nat.not_lt_zero _)⟩
theorem max_two {H V C m N R S y x : Nat} (ao : Option Addr) (cap : Nat) (w : World) (h : Qb H V C m N) (hR : 1 ≤ R ∧ R ≤ 15) (hS : 1 ≤ S ∧ S ≤ 15) (hy : 1 ≤ y ∧ y ≤ 15) (hx : 1 ≤ x ∧ x ≤ 15) (hmc : m ≤ cap) (hcap : cap ≤ 9223372036854775807) (rd : Wr w ao m N) :
    Calls Try.prog 12 #[cuv H V C ao m cap, Sg.win R S y x 0 0 0 0] w fun e w' => ∃ E h' v' c' M X bo, e = .returned (.tuple #[cuv h' v' c' bo M M, .int .i64 E]) ∧ Po false H V C N R S y x E h' v' c' M X ∧ Wr w' bo M X ∧ Below w.heap.size w w' := by
  obtain ⟨g, o, rfl⟩ := rd.some h.pos
  by_cases f : R ≤ H ∧ S ≤ V
  · have pg := h.pg hR hS hy hx f
    refine (max_ok H V C R S y x g o m cap N _ _ _ w pg rfl rfl rfl hmc hcap rd).mono ?_
    rintro e w1 ⟨G, rfl, _, row, hb⟩
    exact ⟨_, _, _, _, _, _, _, rfl, .inl ⟨f, rfl, rfl, rfl, rfl, rfl, rfl⟩, Wr.row row (poN_lt _ _ _ _ _ _ _ _ _ _), hb⟩
  · have e0 := po32 h hR hS hy hx f
    refine (max_bad H V C (some ⟨g, o, none⟩) m cap N R S y x 0 0 0 0 w hmc hcap rd (by rw [e0]; decide)).mono ?_
    rintro e w1 ⟨rfl, hb⟩
    exact ⟨_, _, _, _, _, _, _, rfl, .inr ⟨f, e0, rfl, rfl, rfl, rfl, rfl⟩, Wr.nil _, hb⟩
theorem min_two {H V C m N R S y x : Nat} (ao : Option Addr) (cap : Nat) (w : World) (h : Qb H V C m N) (hR : 1 ≤ R ∧ R ≤ 15) (hS : 1 ≤ S ∧ S ≤ 15) (hy : 1 ≤ y ∧ y ≤ 15) (hx : 1 ≤ x ∧ x ≤ 15) (hmc : m ≤ cap) (hcap : cap ≤ 9223372036854775807) (rd : Wr w ao m N) :
    Calls Try.prog 13 #[cuv H V C ao m cap, Sg.win R S y x 0 0 0 0] w fun e w' => ∃ E h' v' c' M X bo, e = .returned (.tuple #[cuv h' v' c' bo M M, .int .i64 E]) ∧ Po true H V C N R S y x E h' v' c' M X ∧ Wr w' bo M X ∧ Below w.heap.size w w' := by
  obtain ⟨g, o, rfl⟩ := rd.some h.pos
  by_cases f : R ≤ H ∧ S ≤ V
  · have pg := h.pg hR hS hy hx f
    refine (min_ok H V C R S y x g o m cap N _ _ _ w pg rfl rfl rfl hmc hcap rd).mono ?_
    rintro e w1 ⟨G, rfl, _, row, hb⟩
    exact ⟨_, _, _, _, _, _, _, rfl, .inl ⟨f, rfl, rfl, rfl, rfl, rfl, rfl⟩, Wr.row row (poN_lt _ _ _ _ _ _ _ _ _ _), hb⟩
  · have e0 := po32 h hR hS hy hx f
    refine (min_bad H V C (some ⟨g, o, none⟩) m cap N R S y x 0 0 0 0 w hmc hcap rd (by rw [e0]; decide)).mono ?_
    rintro e w1 ⟨rfl, hb⟩
    exact ⟨_, _, _, _, _, _, _, rfl, .inr ⟨f, e0, rfl, rfl, rfl, rfl, rfl⟩, Wr.nil _, hb⟩
end Go.Proofs.Ytlghmojjcfjibaa
