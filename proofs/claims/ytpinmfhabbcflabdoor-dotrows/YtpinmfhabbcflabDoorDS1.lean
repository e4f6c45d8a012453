/- DotSums. -/
import Derived.Test.YtpinmfhabbcflabDoorDQ4
import Derived.Test.YtpinmfhabbcflabDoorDW11
namespace Go.Proofs.YtpinmfhabbcflabDoor
open Go.RowKit
attribute [local go_sem ↓] Go.wp_at_zero Go.wp_at_succ

/-- The cells of a row, of a row of bits. -/
def Cr (w : World) (g o : Nat) (A B : Bt) : Prop := w.cell? ⟨g, o, none⟩ = some (.int .i64 A.n) ∧ w.cell? ⟨g, o + 1, none⟩ = some (.slice A.ao A.m A.cap) ∧ w.cell? ⟨g, o + 2, none⟩ = some (.int .i64 B.n) ∧ w.cell? ⟨g, o + 3, none⟩ = some (.slice B.ao B.m B.cap)
def Cb (w : World) (g o : Nat) (X : Bt) : Prop := w.cell? ⟨g, o, none⟩ = some (.int .i64 X.n) ∧ w.cell? ⟨g, o + 1, none⟩ = some (.slice X.ao X.m X.cap)
theorem keepM {M : Nat} {W X : World} (hb : Below M W X) {g o : Nat} {v : Value} (hg : g < M) (h : W.cell? ⟨g, o, none⟩ = some v) : X.cell? ⟨g, o, none⟩ = some v := (hb.cell (p := ⟨g, o, none⟩) hg).trans h
theorem Cr.keep {M : Nat} {W X : World} {g o : Nat} {A B : Bt} (h : Cr W g o A B) (hg : g < M) (hb : Below M W X) : Cr X g o A B := ⟨keepM hb hg h.1, keepM hb hg h.2.1, keepM hb hg h.2.2.1, keepM hb hg h.2.2.2⟩
theorem Cb.keep {M : Nat} {W X : World} {g o : Nat} {A : Bt} (h : Cb W g o A) (hg : g < M) (hb : Below M W X) : Cb X g o A := ⟨keepM hb hg h.1, keepM hb hg h.2⟩
theorem Cr.below {W X : World} {g o : Nat} {A B : Bt} (h : Cr W g o A B) (hb : Below W.heap.size W X) : Cr X g o A B := h.keep (lt_of_cell h.1) hb
theorem Cb.below {W X : World} {g o : Nat} {A : Bt} (h : Cb W g o A) (hb : Below W.heap.size W X) : Cb X g o A := h.keep (lt_of_cell h.1) hb
/-- Lists of rows, of rows of bits. -/
def Lr (w : World) (ao : Option Addr) (l : List (Bt × Bt)) : Prop := ∀ i (h : i < l.length), (∃ g o, ao = some ⟨g, o, none⟩ ∧ Cr w g (o + i * 4) l[i].1 l[i].2) ∧ Rz w l[i].1 ∧ Rz w l[i].2
def Lb (w : World) (ao : Option Addr) (l : List Bt) : Prop := ∀ i (h : i < l.length), (∃ g o, ao = some ⟨g, o, none⟩ ∧ Cb w g (o + i * 2) l[i]) ∧ Rz w l[i]
theorem kpS1 {M : Nat} {W X : World} {g o g' o' : Nat} {A B C : Bt} (h1 : Cr W g o A B) (h2 : Cb W g' o' C) (hg : g < M) (hg' : g' < M) (hb : Below M W X) :
    (X.cell? ⟨g, o, none⟩ = some (.int .i64 A.n) ∧ X.cell? ⟨g, o + 1, none⟩ = some (.slice A.ao A.m A.cap) ∧ X.cell? ⟨g, o + 2, none⟩ = some (.int .i64 B.n) ∧ X.cell? ⟨g, o + 3, none⟩ = some (.slice B.ao B.m B.cap)) ∧ X.cell? ⟨g', o', none⟩ = some (.int .i64 C.n) ∧ X.cell? ⟨g', o' + 1, none⟩ = some (.slice C.ao C.m C.cap) := ⟨h1.keep hg hb, h2.keep hg' hb⟩
theorem kpS2 {M : Nat} {W X : World} {g o g' o' : Nat} {A B C D : Bt} (h1 : Cr W g o A B) (h2 : Cr W g' o' C D) (hg : g < M) (hg' : g' < M) (hb : Below M W X) :
    (X.cell? ⟨g, o, none⟩ = some (.int .i64 A.n) ∧ X.cell? ⟨g, o + 1, none⟩ = some (.slice A.ao A.m A.cap) ∧ X.cell? ⟨g, o + 2, none⟩ = some (.int .i64 B.n) ∧ X.cell? ⟨g, o + 3, none⟩ = some (.slice B.ao B.m B.cap)) ∧ X.cell? ⟨g', o', none⟩ = some (.int .i64 C.n) ∧ X.cell? ⟨g', o' + 1, none⟩ = some (.slice C.ao C.m C.cap) ∧ X.cell? ⟨g', o' + 2, none⟩ = some (.int .i64 D.n) ∧ X.cell? ⟨g', o' + 3, none⟩ = some (.slice D.ao D.m D.cap) := ⟨h1.keep hg hb, h2.keep hg' hb⟩
theorem rm_new (w : World) : Rm (w.alloc (.cells #[.slice none 0 0, .slice none 0 0] 28)) w.heap.size [] :=
  ⟨.slice none 0 0, .slice none 0 0, World.rowIs_alloc w _ _ _ (fun i hi => by
    rcases i with _ | _ | i
    · rfl
    · rfl
    · simp at hi; omega), World.ownsRow_nil _ _ _ _, World.ownsRow_nil _ _ _ _, .inl rfl, fun e he => by cases he⟩
/-- What the walk keeps behind the making of a Room: W the world then, M its block. -/
def PS (W X : World) (M : Nat) (L : List (Bt × Value)) : Prop := Rm X M L ∧ Below M W X
theorem PS.drew {W X : World} {M : Nat} {L : List (Bt × Value)} (h : PS W X M L) : PS W X.drew M L := ⟨h.1.drew, h.2.drew⟩
end Go.Proofs.YtpinmfhabbcflabDoor
