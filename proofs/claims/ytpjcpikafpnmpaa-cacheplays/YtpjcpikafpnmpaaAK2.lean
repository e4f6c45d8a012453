/- CACHE: the row's own calls. -/
import Derived.Test.YtpjcpikafpnmpaaAK1
namespace Go.Proofs.Ytpjcpikafpnmpaa
open Go.RowKit

/-- A neighbour's block. -/
def Nb (w : World) (b : Nat) (o : Option Nat) : Prop := ∀ y, o = some y → y ≠ b ∧ ∃ x p q, w.rowIs y 81 5 (ef x p q)
set_option maxHeartbeats 800000 in
set_option maxRecDepth 100000 in
theorem drop_cells (p b : Nat) (pp qq : Option Nat) (x : Ce) (w : World) {rm mu : Int} {bm : Nat} {fp lp : Option Nat} {h m : Int} (hp : w.rowIs p 75 8 (cf rm mu bm fp lp h m))
    (hx : w.rowIs b 81 5 (ef x pp qq)) (h1 : Nb w b pp) (h2 : Nb w b qq) :
    Calls Try.prog 49 #[.pointer (some ⟨p, 4, none⟩), .pointer (some ⟨b, 0, none⟩)] w fun e w' => e = .returned (.tuple #[]) ∧ Qt ((w.setCell (at1 p pp) (ptr qq)).setCell (at2 p qq) (ptr pp)) w' := by
  have c3 := hx.cell (i := 3) (by omega)
  have c4 := hx.cell (i := 4) (by omega)
  have hpb : p ≠ b := row_ne hp hx (by decide)
  have hpb' := hpb.symm
  have d4 := hp.cell (i := 4) (by omega)
  have d5 := hp.cell (i := 5) (by omega)
  have f4 := hp.frozen 4
  have f5 := hp.frozen 5
  dsimp only [ptr, cf, ef] at c3 c4 d4 d5
  generalize Option.map (fun b => (⟨b, 0, none⟩ : Addr)) fp = u4 at *
  generalize Option.map (fun b => (⟨b, 0, none⟩ : Addr)) lp = u5 at *
  rcases pp with _ | y <;> rcases qq with _ | z
  · simp only [Option.map_none] at c3 c4
    go_enter Try.func49, Try.ntmps49
    go_wp2_with fail
    exact bodyPost_end (results_none rfl _ _ _) rfl ⟨rfl, Qt.refl _⟩
  · obtain ⟨hz, x', p', q', hg⟩ := h2 z rfl
    have z3 := hg.cell (i := 3) (by omega)
    have zf := hg.frozen 3
    have hzb := hz.symm
    have hzp : z ≠ p := row_ne hg hp (by decide)
    have hpz := hzp.symm
    dsimp only [ptr, ef] at z3
    generalize Option.map (fun b => (⟨b, 0, none⟩ : Addr)) p' = u3 at *
    simp only [Option.map_none, Option.map_some] at c3 c4
    go_enter Try.func49, Try.ntmps49
    go_upto_region 5 with fail
    go_region
    all_goals go_wp2_with fail
    all_goals exact bodyPost_end (results_none rfl _ _ _) rfl ⟨rfl, ⟨1, rfl⟩⟩
  · obtain ⟨hy, x', p', q', hg⟩ := h1 y rfl
    have y4 := hg.cell (i := 4) (by omega)
    have yf := hg.frozen 4
    have hyb := hy.symm
    have hyp : y ≠ p := row_ne hg hp (by decide)
    have hpy := hyp.symm
    dsimp only [ptr, ef] at y4
    generalize Option.map (fun b => (⟨b, 0, none⟩ : Addr)) q' = u3 at *
    simp only [Option.map_none, Option.map_some] at c3 c4
    go_enter Try.func49, Try.ntmps49
    go_upto_region 2 with fail
    go_region
    all_goals go_wp2_with fail
    all_goals exact bodyPost_end (results_none rfl _ _ _) rfl ⟨rfl, ⟨1, rfl⟩⟩
  · obtain ⟨hy, x', p', q', hg⟩ := h1 y rfl
    have y4 := hg.cell (i := 4) (by omega)
    have yf := hg.frozen 4
    obtain ⟨hz, x'', p'', q'', hg'⟩ := h2 z rfl
    have z3 := hg'.cell (i := 3) (by omega)
    have zf := hg'.frozen 3
    have hyb := hy.symm
    have hzb := hz.symm
    dsimp only [ptr, ef] at y4 z3
    generalize Option.map (fun b => (⟨b, 0, none⟩ : Addr)) q' = u3 at *
    generalize Option.map (fun b => (⟨b, 0, none⟩ : Addr)) p'' = u3' at *
    simp only [Option.map_some] at c3 c4
    go_enter Try.func49, Try.ntmps49
    go_upto_region 2 with fail
    go_region
    all_goals go_upto_region 5 with fail
    all_goals go_region
    all_goals go_wp2_with fail
    all_goals exact bodyPost_end (results_none rfl _ _ _) rfl ⟨rfl, ⟨2, rfl⟩⟩
set_option maxHeartbeats 800000 in
set_option maxRecDepth 100000 in
theorem add_cells (p b : Nat) (qq pp0 qq0 lp : Option Nat) (x : Ce) (w : World) {rm mu : Int} {bm : Nat} {h m : Int} (hp : w.rowIs p 75 8 (cf rm mu bm qq lp h m))
    (hx : w.rowIs b 81 5 (ef x pp0 qq0)) (h2 : Nb w b qq) :
    Calls Try.prog 50 #[.pointer (some ⟨p, 4, none⟩), .pointer (some ⟨b, 0, none⟩)] w fun e w' => e = .returned (.tuple #[]) ∧ w' = (((w.setCell ⟨b, 3, none⟩ (ptr none)).setCell ⟨b, 4, none⟩ (ptr qq)).setCell (at2 p qq) (ptr (some b))).setCell ⟨p, 4, none⟩ (ptr (some b)) := by
  have c3 := hx.cell (i := 3) (by omega)
  have c4 := hx.cell (i := 4) (by omega)
  have e3 := hx.frozen 3
  have e4 := hx.frozen 4
  have hpb : p ≠ b := row_ne hp hx (by decide)
  have hpb' := hpb.symm
  have d4 := hp.cell (i := 4) (by omega)
  have d5 := hp.cell (i := 5) (by omega)
  have f4 := hp.frozen 4
  have f5 := hp.frozen 5
  dsimp only [ptr, cf, ef] at c3 c4 d4 d5
  generalize Option.map (fun b => (⟨b, 0, none⟩ : Addr)) pp0 = u3 at *
  generalize Option.map (fun b => (⟨b, 0, none⟩ : Addr)) qq0 = u4 at *
  generalize Option.map (fun b => (⟨b, 0, none⟩ : Addr)) lp = u5 at *
  rcases qq with _ | z
  · simp only [Option.map_none] at d4
    go_enter Try.func50, Try.ntmps50
    go_wp2_with fail
    exact bodyPost_end (results_none rfl _ _ _) rfl ⟨rfl, rfl⟩
  · obtain ⟨hz, x', p', q', hg⟩ := h2 z rfl
    have z3 := hg.cell (i := 3) (by omega)
    have zf := hg.frozen 3
    have hzb := hz.symm
    have hzp : z ≠ p := row_ne hg hp (by decide)
    have hpz := hzp.symm
    dsimp only [ptr, ef] at z3
    generalize Option.map (fun b => (⟨b, 0, none⟩ : Addr)) p' = u6 at *
    simp only [Option.map_some] at d4
    go_enter Try.func50, Try.ntmps50
    go_wp2_with fail
    exact bodyPost_end (results_none rfl _ _ _) rfl ⟨rfl, rfl⟩
/-- What stands ahead of a piece, and behind it. -/
theorem nb_last {w : World} {A C : List Ce} {x : Ce} {p q : Option Nat} (hs : Seg w p A q) (hn : ((A ++ x :: C).map (·.b)).Nodup) (hp : p = none) : Nb w x.b (lt p A) := by
  subst hp
  intro y hy
  rcases snoc_cases A with rfl | ⟨A', z, rfl⟩
  · cases hy
  · rw [lt_snoc] at hy
    injection hy with hy
    subst hy
    obtain ⟨p', q', e⟩ := hs.at z (by simp)
    exact ⟨(nd_app hn).1 z (by simp) x (by simp), z, p', q', e⟩
theorem nb_head {w : World} {C : List Ce} {b : Nat} {p : Option Nat} (hs : Seg w p C none) (hn : ∀ y ∈ C, y.b ≠ b) : Nb w b (hd C none) := by
  intro y hy
  cases C with
  | nil => cases hy
  | cons z C =>
    injection hy with hy
    subst hy
    exact ⟨hn z (by simp), z, _, _, hs.1⟩
theorem Rw.qt {w w' : World} {p : Nat} {rm mu : Int} {bm : Nat} {h m : Int} {L : List Ce} (r : Rw w p rm mu bm h m L) (q : Qt w w') : Rw w' p rm mu bm h m L := by
  obtain ⟨n, rfl⟩ := q
  have e : (w.drewN n).heap = w.heap := by
    induction n with
    | zero => rfl
    | succ n ih => exact ih
  exact r.keep (by rw [e]) (fun x _ => by rw [e])
/-- The blocks of a row: the cache's own, the entries'. -/
def Rb (p : Nat) (L : List Ce) : Nat → Prop := fun k => k = p ∨ ∃ x ∈ L, x.b = k
theorem lt_mem {A : List Ce} {y : Nat} (h : lt none A = some y) : ∃ x ∈ A, x.b = y := by
  rcases snoc_cases A with rfl | ⟨A', z, rfl⟩
  · cases h
  · rw [lt_snoc] at h
    injection h with h
    exact ⟨z, by simp, h⟩
theorem hd_mem {C : List Ce} {y : Nat} (h : hd C none = some y) : ∃ x ∈ C, x.b = y := by
  cases C with
  | nil => cases h
  | cons z C => injection h with h; exact ⟨z, by simp, h⟩
theorem at1_block {p : Nat} {A C : List Ce} : Rb p (A ++ C) (at1 p (lt none A)).block := by
  cases h : lt none A with
  | none => exact .inl rfl
  | some y => obtain ⟨x, hx, e⟩ := lt_mem h; exact .inr ⟨x, by simp [hx], e⟩
theorem at2_block {p : Nat} {A C : List Ce} : Rb p (A ++ C) (at2 p (hd C none)).block := by
  cases h : hd C none with
  | none => exact .inl rfl
  | some y => obtain ⟨x, hx, e⟩ := hd_mem h; exact .inr ⟨x, by simp [hx], e⟩
theorem BP.qt {S : Nat → Prop} {w w' w'' : World} (h : BP S w w') (q : Qt w' w'') : BP S w w'' := by
  obtain ⟨n, rfl⟩ := q
  exact h.drewN n
theorem size_qt {w w' : World} (q : Qt w w') : w'.heap.size = w.heap.size := by
  obtain ⟨n, rfl⟩ := q
  induction n with
  | zero => rfl
  | succ n ih => exact ih
theorem BP.setA {S : Nat → Prop} {w w' : World} (h : BP S w w') {a : Addr} (ha : S a.block) (v : Value) : BP S w (w'.setCell a v) :=
  ⟨h.os, h.tape, h.output, by simpa using h.size, fun k hk hn => (Below.heap_setCell w' a v k (fun e => hn (e ▸ ha))).trans (h.block k hk hn)⟩
theorem row_other {w : World} {b : Nat} {t n : Nat} {f : Nat → Value} (h : w.rowIs b t n f) {a : Addr} (ha : b ≠ a.block) (v : Value) : (w.setCell a v).rowIs b t n f := h.of_block (Below.heap_setCell _ _ _ _ ha)
theorem row_qt {w w' : World} {b : Nat} {t n : Nat} {f : Nat → Value} (h : w.rowIs b t n f) (q : Qt w w') : w'.rowIs b t n f := by
  obtain ⟨k, rfl⟩ := q; exact row_drewN h k
end Go.Proofs.Ytpjcpikafpnmpaa
