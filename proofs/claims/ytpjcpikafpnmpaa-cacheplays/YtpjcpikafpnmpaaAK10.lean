/- CACHE: Put: too long a key; a key that is there. -/
import Derived.Test.YtpjcpikafpnmpaaAK9
namespace Go.Proofs.Ytpjcpikafpnmpaa
open Go.RowKit Go.MuLone

set_option maxHeartbeats 1600000 in
set_option maxRecDepth 100000 in
theorem put_long (p : Nat) (w : World) (ao : Option Addr) (n cap : Nat) (v : Value) (a : Int) (hz : 65536 < n) :
    Calls Try.prog 11 #[.pointer (some ⟨p, 0, none⟩), .slice ao n cap, rsv v a] w fun e w' => e = .returned (.int .i64 2) ∧ Below w.heap.size w w' := by
  have h1 : (65536 : Int) < (n : Int) := by omega
  go_enter_defers Try.func11, Try.ntmps11
  go_wp2_with fail
  exact ⟨.int .i64 2, by simp [results, Try.results11, go_sem], rfl, bl_alloc (Below.refl _ _) _⟩
/-- What the numbers' new home is. -/
abbrev grown (S : Nat → Prop) (w w' : World) : Nat → Prop := fun k => S k ∨ (w.heap.size ≤ k ∧ k < w'.heap.size)
/-- An entry's Result another one. -/
theorem Ch.result {w : World} {S : Nat → Prop} {p : Nat} {rm mu : Int} {bm : Nat} {h m : Int} {A C : List Ce} {x : Ce} (c : Ch w S p rm mu bm h m (A ++ x :: C)) {v : Value} {l : List Int} {a : Int} (hv : Ow w 0 v l) (hl : l.length * 8 ≤ 140737488355328) (hs : ∀ g, v.ownBlock = some g → S g) :
    Ch ((w.setCell ⟨x.b, 1, none⟩ v).setCell ⟨x.b, 2, none⟩ (.int .i64 a)) S p rm mu bm h m (A ++ { x with v := v, l := l, a := a } :: C) := by
  have hs0 := (seg_app A (x :: C) none none).1 c.rw.seg
  have hn := nd_app c.rw.nd
  have hnC := nd_head hn.2.2
  have hb : ∀ k, k ≠ x.b → ((w.setCell ⟨x.b, 1, none⟩ v).setCell ⟨x.b, 2, none⟩ (.int .i64 a)).heap[k]? = w.heap[k]? := fun k hk => by
    rw [Below.heap_setCell _ _ _ _ (show k ≠ x.b from hk), Below.heap_setCell _ _ _ _ (show k ≠ x.b from hk)]
  have hlb : ∀ {v l}, Ow w 0 v l → ∀ g, v.ownBlock = some g → g ≠ x.b := fun {v l} ho g hg => by
    rcases ho.form with ⟨e, _⟩ | ⟨g', cap, f, e, _, row, _⟩
    · rw [e] at hg; cases hg
    · rw [e] at hg; injection hg with hg; subst hg
      exact row_ne row hs0.2.1 (by decide)
  have hmap : ((A ++ { x with v := v, l := l, a := a } :: C).map (·.b)) = ((A ++ x :: C).map (·.b)) := by simp
  have hmk : ((A ++ { x with v := v, l := l, a := a } :: C).map (·.k)) = ((A ++ x :: C).map (·.k)) := by simp
  have hcase : ∀ y, y ∈ A ++ { x with v := v, l := l, a := a } :: C → y = { x with v := v, l := l, a := a } ∨ (y ∈ A ++ x :: C) := fun y hy => by
    rcases List.mem_append.1 hy with h | h
    · exact .inr (by simp [h])
    · rcases List.mem_cons.1 h with h | h
      · exact .inl h
      · exact .inr (by simp [h])
  have hlt : ∀ (p : Option Nat) , lt p (A ++ { x with v := v, l := l, a := a } :: C) = lt p (A ++ x :: C) := fun p => by rw [lt_app, lt_app]; rfl
  have hhd : hd (A ++ { x with v := v, l := l, a := a } :: C) none = hd (A ++ x :: C) none := by rw [hd_app, hd_app]; rfl
  refine ⟨⟨?_, ?_, by rw [hmap]; exact c.rw.nd⟩, ?_, ?_, by rw [hmk]; exact c.ks, ?_, c.sp, c.sm, ?_, ⟨c.rom.1, c.rom.2.1, by have := c.rom.2.2; simp at this ⊢; exact this⟩, c.cnt⟩
  · rw [hlt, hhd]
    exact c.rw.box.of_block (hb p (c.rw.ne x (by simp)).symm)
  · rw [seg_app]
    refine ⟨hs0.1.keep fun y hy => hb _ (hn.1 y hy x (by simp)), ?_, hs0.2.2.keep fun y hy => hb _ (hnC y hy)⟩
    refine ((hs0.2.1.set 1 v).set 2 (.int .i64 a)).congr fun i hi => ?_
    rcases i with _ | _ | _ | _ | _ | i <;> first | rfl | omega
  · obtain ⟨D, h1, h2, h3, h4⟩ := c.mp.keep (hb bm (c.mp.ne hs0.2.1))
    refine ⟨D, by simpa using h1, fun y hy => ?_, fun s hs => h3 s fun y hy => ?_, by rw [h4]; simp⟩
    · rcases hcase y hy with rfl | hy
      · exact h2 x (by simp)
      · exact h2 y hy
    · rcases List.mem_append.1 hy with h | h
      · exact hs y (by simp [h])
      · rcases List.mem_cons.1 h with rfl | h
        · exact hs { y with v := v, l := l, a := a } (by simp)
        · exact hs y (by simp [h])
  · intro y hy
    rcases hcase y hy with rfl | hy
    · exact hv.block fun g hg => hb g (hlb hv g hg)
    · exact (c.lg y hy).block fun g hg => hb g (hlb (c.lg y hy) g hg)
  · intro y hy
    rcases hcase y hy with rfl | hy
    · exact ⟨(c.kz x (by simp)).1, hl⟩
    · exact c.kz y hy
  · intro y hy
    rcases hcase y hy with rfl | hy
    · exact ⟨(c.se x (by simp)).1, hs⟩
    · exact c.se y hy
theorem Ch.more {w : World} {S S' : Nat → Prop} {p : Nat} {rm mu : Int} {bm : Nat} {h m : Int} {L : List Ce} (c : Ch w S p rm mu bm h m L) (hs : ∀ k, S k → S' k) : Ch w S' p rm mu bm h m L :=
  ⟨c.rw, c.mp, c.lg, c.ks, c.kz, hs _ c.sp, hs _ c.sm, fun x hx => ⟨hs _ (c.se x hx).1, fun g hg => hs _ ((c.se x hx).2 g hg)⟩, c.rom, c.cnt⟩
end Go.Proofs.Ytpjcpikafpnmpaa
