/- CACHE: the row of entries. -/
import Derived.Test.YtpjcpikafpnmpaaAK0
namespace Go.Proofs.Ytpjcpikafpnmpaa
open Go.RowKit

/-- An entry: its block, key, Logits (the slice, the numbers), Arg. -/
structure Ce where
  b : Nat
  k : ByteArray
  v : Value
  l : List Int
  a : Int
/-- Its five cells, between two neighbours. -/
def ef (x : Ce) (p q : Option Nat) : Nat → Value
  | 0 => .string x.k
  | 1 => x.v
  | 2 => .int .i64 x.a
  | 3 => ptr p
  | _ => ptr q
/-- The first of them, or what follows. -/
def hd : List Ce → Option Nat → Option Nat
  | [], q => q
  | x :: _, _ => some x.b
/-- The last of them, or what stands ahead. -/
def lt : Option Nat → List Ce → Option Nat
  | p, [] => p
  | _, x :: L => lt (some x.b) L
theorem hd_app (A C : List Ce) (q : Option Nat) : hd (A ++ C) q = hd A (hd C q) := by cases A <;> rfl
theorem lt_app : ∀ (A C : List Ce) (p : Option Nat), lt p (A ++ C) = lt (lt p A) C
  | [], _, _ => rfl
  | x :: A, C, p => by simp only [List.cons_append, lt]; exact lt_app A C _
/-- A piece of the row lies in memory. -/
def Seg (w : World) : Option Nat → List Ce → Option Nat → Prop
  | _, [], _ => True
  | p, x :: L, q => w.rowIs x.b 81 5 (ef x p (hd L q)) ∧ Seg w (some x.b) L q
theorem seg_app {w : World} : ∀ (A C : List Ce) (p q : Option Nat), Seg w p (A ++ C) q ↔ Seg w p A (hd C q) ∧ Seg w (lt p A) C q
  | [], _, _, _ => by simp [Seg, lt]
  | x :: A, C, p, q => by
    simp only [List.cons_append, Seg, lt, hd_app]
    rw [seg_app A C]
    exact and_assoc.symm
theorem Seg.keep {w w' : World} : ∀ {L : List Ce} {p q : Option Nat}, Seg w p L q → (∀ x ∈ L, w'.heap[x.b]? = w.heap[x.b]?) → Seg w' p L q
  | [], _, _, _, _ => trivial
  | _ :: _, _, _, h, k => ⟨h.1.of_block (k _ (by simp)), h.2.keep fun y hy => k y (by simp [hy])⟩
theorem Seg.at {w : World} : ∀ {L : List Ce} {p q : Option Nat}, Seg w p L q → ∀ x ∈ L, ∃ p' q', w.rowIs x.b 81 5 (ef x p' q')
  | [], _, _, _, x, hx => by simp at hx
  | y :: L, p, q, h, x, hx => by
    rcases List.mem_cons.1 hx with rfl | hx
    · exact ⟨_, _, h.1⟩
    · exact h.2.at x hx
theorem Seg.other {w : World} {L : List Ce} {p q : Option Nat} (h : Seg w p L q) {a : Addr} (ha : ∀ x ∈ L, x.b ≠ a.block) (v : Value) : Seg (w.setCell a v) p L q :=
  h.keep fun x hx => Below.heap_setCell _ _ _ _ (ha x hx)
theorem Seg.last {w : World} {A : List Ce} {y : Ce} {p q : Option Nat} (h : Seg w p (A ++ [y]) q) (hn : ∀ x ∈ A, x.b ≠ y.b) (q' : Option Nat) : Seg (w.setCell ⟨y.b, 4, none⟩ (ptr q')) p (A ++ [y]) q' := by
  rw [seg_app] at h ⊢
  refine ⟨h.1.other (a := ⟨y.b, 4, none⟩) hn _, ?_, trivial⟩
  refine (h.2.1.set 4 _).congr fun i hi => ?_
  rcases i with _ | _ | _ | _ | _ | i <;> first | rfl | omega
theorem Seg.head {w : World} {C : List Ce} {y : Ce} {p q : Option Nat} (h : Seg w p (y :: C) q) (hn : ∀ x ∈ C, x.b ≠ y.b) (p' : Option Nat) : Seg (w.setCell ⟨y.b, 3, none⟩ (ptr p')) p' (y :: C) q := by
  refine ⟨(h.1.set 3 _).congr fun i hi => ?_, h.2.other (a := ⟨y.b, 3, none⟩) hn _⟩
  rcases i with _ | _ | _ | _ | _ | i <;> first | rfl | omega
/-- The cache's eight cells. -/
def cf (rm mu : Int) (bm : Nat) (f l : Option Nat) (h m : Int) : Nat → Value
  | 0 => .int .i64 rm
  | 1 => .int .i32 mu
  | 2 => .int .u32 0
  | 3 => .map (some bm)
  | 4 => ptr f
  | 5 => ptr l
  | 6 => .int .i64 h
  | _ => .int .i64 m
theorem eight {f g : Nat → Value} (h0 : f 0 = g 0) (h1 : f 1 = g 1) (h2 : f 2 = g 2) (h3 : f 3 = g 3) (h4 : f 4 = g 4) (h5 : f 5 = g 5) (h6 : f 6 = g 6) (h7 : f 7 = g 7) : ∀ i, i < 8 → f i = g i := by
  intro i hi
  rcases i with _ | _ | _ | _ | _ | _ | _ | _ | i <;> first | assumption | omega
/-- The row: its two ends, its entries. -/
structure Rw (w : World) (p : Nat) (rm mu : Int) (bm : Nat) (h m : Int) (L : List Ce) : Prop where
  box : w.rowIs p 75 8 (cf rm mu bm (hd L none) (lt none L) h m)
  seg : Seg w none L none
  nd : (L.map (·.b)).Nodup
theorem row_ne {w : World} {b b' t t' n n' : Nat} {f f' : Nat → Value} (h : w.rowIs b t n f) (h' : w.rowIs b' t' n' f') (ht : t ≠ t') : b ≠ b' := by
  rintro rfl
  obtain ⟨c, e, _⟩ := h
  obtain ⟨c', e', _⟩ := h'
  rw [e] at e'
  exact ht (by injection e' with e'; injection e')
theorem Rw.ne {w : World} {p : Nat} {rm mu : Int} {bm : Nat} {h m : Int} {L : List Ce} (r : Rw w p rm mu bm h m L) : ∀ x ∈ L, x.b ≠ p := fun x hx => by
  obtain ⟨_, _, e⟩ := r.seg.at x hx
  exact row_ne e r.box (by decide)
theorem Rw.keep {w w' : World} {p : Nat} {rm mu : Int} {bm : Nat} {h m : Int} {L : List Ce} (r : Rw w p rm mu bm h m L) (hp : w'.heap[p]? = w.heap[p]?) (hk : ∀ x ∈ L, w'.heap[x.b]? = w.heap[x.b]?) : Rw w' p rm mu bm h m L :=
  ⟨r.box.of_block hp, r.seg.keep hk, r.nd⟩
/-- Where the neighbour ahead stands: its cell 4, or the row's first. -/
def at1 (p : Nat) : Option Nat → Addr
  | none => ⟨p, 4, none⟩
  | some y => ⟨y, 4, none⟩
def at2 (p : Nat) : Option Nat → Addr
  | none => ⟨p, 5, none⟩
  | some y => ⟨y, 3, none⟩
theorem nd_app {A C : List Ce} (h : ((A ++ C).map (·.b)).Nodup) : (∀ x ∈ A, ∀ y ∈ C, x.b ≠ y.b) ∧ (A.map (·.b)).Nodup ∧ (C.map (·.b)).Nodup := by
  rw [List.map_append, List.nodup_append] at h
  exact ⟨fun x hx y hy => h.2.2 _ (List.mem_map_of_mem hx) _ (List.mem_map_of_mem hy), h.1, h.2.1⟩
theorem snoc_cases (A : List Ce) : A = [] ∨ ∃ A' y, A = A' ++ [y] := by
  rcases List.eq_nil_or_concat A with h | ⟨A', y, h⟩
  · exact .inl h
  · exact .inr ⟨A', y, by simpa using h⟩
theorem lt_snoc (A : List Ce) (y : Ce) (p : Option Nat) : lt p (A ++ [y]) = some y.b := by rw [lt_app]; rfl
/-- One entry taken out. -/
theorem Rw.drop {w : World} {p : Nat} {rm mu : Int} {bm : Nat} {h m : Int} {A C : List Ce} {x : Ce} (r : Rw w p rm mu bm h m (A ++ x :: C)) :
    Rw ((w.setCell (at1 p (lt none A)) (ptr (hd C none))).setCell (at2 p (hd C none)) (ptr (lt none A))) p rm mu bm h m (A ++ C) := by
  have hne := r.ne
  obtain ⟨hb, hs, hn⟩ := r
  have hn0 := nd_app hn
  have hn1 : ∀ y ∈ A, ∀ z ∈ C, y.b ≠ z.b := fun y hy z hz => hn0.1 y hy z (by simp [hz])
  have hn2 : ((A ++ C).map (·.b)).Nodup := by
    refine hn.sublist ?_
    simp
  have hnA := hn0.2.1
  have hnC : (C.map (·.b)).Nodup := (List.nodup_cons.1 hn0.2.2).2
  rw [seg_app] at hs
  obtain ⟨sA, sx, sC⟩ := hs
  -- the first store
  have e1 : Seg (w.setCell (at1 p (lt none A)) (ptr (hd C none))) none A (hd C none) ∧ Seg (w.setCell (at1 p (lt none A)) (ptr (hd C none))) (some x.b) C none ∧ (w.setCell (at1 p (lt none A)) (ptr (hd C none))).rowIs p 75 8 (cf rm mu bm (hd A (hd C none)) (lt none (A ++ x :: C)) h m) := by
    rcases snoc_cases A with rfl | ⟨A', y, rfl⟩
    · refine ⟨trivial, sC.other (a := ⟨p, 4, none⟩) (fun z hz => hne z (by simp [hz])) _, (hb.set 4 _).congr (eight rfl rfl rfl rfl rfl rfl rfl rfl)⟩
    · rw [lt_snoc]
      have hyC : ∀ z ∈ C, z.b ≠ y.b := fun z hz => (hn1 y (by simp) z hz).symm
      refine ⟨sA.last (fun z hz => (nd_app hnA).1 z hz y (by simp)) _, sC.other (a := ⟨y.b, 4, none⟩) hyC _, ?_⟩
      have := hb.setOther (a := ⟨y.b, 4, none⟩) (show p ≠ y.b from (hne y (by simp)).symm) (ptr (hd C none))
      rw [hd_app] at this
      refine this.congr (eight rfl rfl rfl rfl ?_ rfl rfl rfl)
      cases A' <;> rfl
  obtain ⟨s1, s2, s3⟩ := e1
  generalize w.setCell (at1 p (lt none A)) (ptr (hd C none)) = w1 at *
  have hl : lt none (A ++ x :: C) = lt (some x.b) C := by rw [lt_app]; rfl
  rw [hl] at s3
  have e0 : hd (A ++ C) none = hd A (hd C none) := hd_app _ _ _
  cases C with
  | nil =>
    refine ⟨?_, ?_, hn2⟩
    · rw [e0, List.append_nil]
      exact (s3.set 5 _).congr (eight rfl rfl rfl rfl rfl rfl rfl rfl)
    · rw [List.append_nil]
      exact s1.other (a := ⟨p, 5, none⟩) (fun z hz => hne z (by simp [hz])) _
  | cons z C =>
    have hzC : ∀ u ∈ C, u.b ≠ z.b := fun u hu e => (List.nodup_cons.1 hnC).1 (List.mem_map.2 ⟨u, hu, e⟩)
    refine ⟨?_, ?_, hn2⟩
    · rw [e0, lt_app]
      exact s3.setOther (a := ⟨z.b, 3, none⟩) (show p ≠ z.b from (hne z (by simp)).symm) _
    · rw [seg_app]
      exact ⟨s1.other (a := ⟨z.b, 3, none⟩) (fun u hu => hn1 u hu z (by simp)) _, s2.head hzC _⟩
/-- An entry put first. -/
theorem Rw.lead {w : World} {p : Nat} {rm mu : Int} {bm : Nat} {h m : Int} {L : List Ce} {x : Ce} {pp qq : Option Nat} (r : Rw w p rm mu bm h m L) (hx : w.rowIs x.b 81 5 (ef x pp qq)) (hn : ∀ y ∈ L, y.b ≠ x.b) :
    Rw ((((w.setCell ⟨x.b, 3, none⟩ (ptr none)).setCell ⟨x.b, 4, none⟩ (ptr (hd L none))).setCell (at2 p (hd L none)) (ptr (some x.b))).setCell ⟨p, 4, none⟩ (ptr (some x.b))) p rm mu bm h m (x :: L) := by
  have hne := r.ne
  obtain ⟨hb, hs, hd0⟩ := r
  have hxp : x.b ≠ p := row_ne hx hb (by decide)
  have nd' : ((x :: L).map (·.b)).Nodup := List.nodup_cons.2 ⟨fun h => by
    obtain ⟨y, hy, e⟩ := List.mem_map.1 h
    exact hn y hy e, hd0⟩
  have x2 : ((w.setCell ⟨x.b, 3, none⟩ (ptr none)).setCell ⟨x.b, 4, none⟩ (ptr (hd L none))).rowIs x.b 81 5 (ef x none (hd L none)) := by
    refine ((hx.set 3 _).set 4 _).congr fun i hi => ?_
    rcases i with _ | _ | _ | _ | _ | i <;> first | rfl | omega
  have b2 : ((w.setCell ⟨x.b, 3, none⟩ (ptr none)).setCell ⟨x.b, 4, none⟩ (ptr (hd L none))).rowIs p 75 8 (cf rm mu bm (hd L none) (lt none L) h m) := (hb.setOther (a := ⟨x.b, 3, none⟩) hxp.symm _).setOther (a := ⟨x.b, 4, none⟩) hxp.symm _
  have s2 : Seg ((w.setCell ⟨x.b, 3, none⟩ (ptr none)).setCell ⟨x.b, 4, none⟩ (ptr (hd L none))) none L none := (hs.other (a := ⟨x.b, 3, none⟩) hn _).other (a := ⟨x.b, 4, none⟩) hn _
  generalize (w.setCell ⟨x.b, 3, none⟩ (ptr none)).setCell ⟨x.b, 4, none⟩ (ptr (hd L none)) = w2 at *
  cases L with
  | nil =>
    refine ⟨((b2.set 5 _).set 4 _).congr (eight rfl rfl rfl rfl rfl rfl rfl rfl), ⟨(x2.setOther (a := ⟨p, 5, none⟩) hxp _).setOther (a := ⟨p, 4, none⟩) hxp _, trivial⟩, nd'⟩
  | cons y L =>
    have hyL : ∀ u ∈ L, u.b ≠ y.b := fun u hu e => (List.nodup_cons.1 hd0).1 (List.mem_map.2 ⟨u, hu, e⟩)
    refine ⟨((b2.setOther (a := ⟨y.b, 3, none⟩) (hne y (by simp)).symm _).set 4 _).congr (eight rfl rfl rfl rfl rfl rfl rfl rfl), ⟨(x2.setOther (a := ⟨y.b, 3, none⟩) (hn y (by simp)).symm _).setOther (a := ⟨p, 4, none⟩) hxp _, ?_⟩, nd'⟩
    exact (s2.head hyL _).other (a := ⟨p, 4, none⟩) hne _
end Go.Proofs.Ytpjcpikafpnmpaa
