/- CHUNKS: what Read answers, in memory. -/
import Derived.Test.YtbpglkhgggokcaaDoorCW7
namespace Go.Proofs.YtbpglkhgggokcaaDoor
open Go.RowKit

theorem und_chunks : Tryd.prog.underlying 27 = some (.slice 44) := by kernel_rfl
theorem info_chunk : (Tryd.prog.info? 44).map (fun i => (i.zero, i.size, i.bytes)) = some (some (.agg #[.int .u32 0, .slice none 0 0]), 2, 32) := by kernel_rfl
theorem own_mono {W : World} {a b T s n : Nat} {v : Value} {xs : List Value} (h : W.ownsRow b T s v n xs) (hab : a ≤ b) : W.ownsRow a T s v n xs := by
  refine ⟨h.1, ?_⟩
  rcases h.2 with h0 | ⟨g, cap, cur, rfl, h1, h2⟩
  · exact .inl h0
  · exact .inr ⟨g, cap, cur, rfl, by omega, h2⟩
theorem own_keep {S : Nat → Prop} {w w' : World} {base T s n : Nat} {v : Value} {xs : List Value} (h : BP S w w') (ho : w.ownsRow base T s v n xs) (hs : ∀ b, v.ownBlock = some b → ¬ S b) : w'.ownsRow base T s v n xs := by
  refine ⟨ho.1, ?_⟩
  rcases ho.2 with h0 | ⟨g, cap, cur, rfl, h1, h2, h3⟩
  · exact .inl h0
  · have hl : g < w.heap.size := (ho.lt g rfl).2
    exact .inr ⟨g, cap, cur, rfl, h1, (h.block g hl (hs g rfl)).trans h2, h3⟩
/-- Rows of two types lie apart. -/
theorem own_ne {W : World} {a b T U s t n m : Nat} {u v : Value} {xs ys : List Value} (h : W.ownsRow a T s u n xs) (k : W.ownsRow b U t v m ys) (hT : T ≠ U) : ∀ g, u.ownBlock = some g → v.ownBlock ≠ some g := by
  intro g hu hv
  rcases h.2 with ⟨rfl, _⟩ | ⟨g1, c1, r1, rfl, _, h1, _⟩
  · simp [Value.ownBlock] at hu
  · rcases k.2 with ⟨rfl, _⟩ | ⟨g2, c2, r2, rfl, _, h2, _⟩
    · simp [Value.ownBlock] at hv
    · have e1 : g1 = g := by simpa [Value.ownBlock] using hu
      have e2 : g2 = g := by simpa [Value.ownBlock] using hv
      subst e1 e2
      rw [h1] at h2
      injection h2 with h2
      injection h2 with _ h2
      exact hT h2
theorem own_row_ne {W : World} {a T U s n m b : Nat} {u : Value} {xs : List Value} {f : Nat → Value} (h : W.ownsRow a T s u n xs) (k : W.rowIs b U m f) (hT : T ≠ U) : u.ownBlock ≠ some b := by
  intro hu
  rcases h.2 with ⟨rfl, _⟩ | ⟨g1, c1, r1, rfl, _, h1, _⟩
  · simp [Value.ownBlock] at hu
  · have e1 : g1 = b := by simpa [Value.ownBlock] using hu
    subst e1
    obtain ⟨cur, h2, _⟩ := k
    rw [h1] at h2
    injection h2 with h2
    injection h2 with _ h2
    exact hT h2
/-- The cells of a list of chunks. -/
def cvs : List Ck → List Nat → List Value
  | c :: cs, g :: gs => .int .u32 (c.1 : Nat) :: .slice (some ⟨g, 0, none⟩) c.2.length c.2.length :: cvs cs gs
  | _, _ => []
theorem cvs_app : ∀ {cs : List Ck} {gs : List Nat} (c : Ck) (g : Nat), cs.length = gs.length → cvs (cs ++ [c]) (gs ++ [g]) = cvs cs gs ++ [.int .u32 (c.1 : Nat), .slice (some ⟨g, 0, none⟩) c.2.length c.2.length]
  | [], [], c, g, _ => rfl
  | [], _ :: _, c, g, h => by simp at h
  | _ :: _, [], c, g, h => by simp at h
  | d :: cs, e :: gs, c, g, h => by
    simp only [List.cons_append, cvs]
    rw [cvs_app c g (by simpa using h)]
theorem cvs_at : ∀ {cs : List Ck} {gs : List Nat} {j : Nat} {c : Ck} {g : Nat}, cs[j]? = some c → gs[j]? = some g → (cvs cs gs)[j * 2]? = some (.int .u32 (c.1 : Nat)) ∧ (cvs cs gs)[j * 2 + 1]? = some (.slice (some ⟨g, 0, none⟩) c.2.length c.2.length)
  | [], gs, j, c, g, h, _ => by simp at h
  | d :: cs, [], j, c, g, _, h => by simp at h
  | d :: cs, e :: gs, j, c, g, h1, h2 => by
    rcases j with _ | j
    · simp at h1 h2
      subst h1 h2
      simp [cvs]
    · have := cvs_at (cs := cs) (gs := gs) (j := j) (c := c) (g := g) (by simpa using h1) (by simpa using h2)
      simpa [cvs, show (j + 1) * 2 = j * 2 + 1 + 1 by omega] using this
abbrev bval (c : Ck) (g : Nat) : Value := .slice (some ⟨g, 0, none⟩) c.2.length c.2.length
/-- An answer of chunks: the list a row of one's own, each Body too, all above z. -/
structure Ans (W : World) (z : Nat) (v : Value) (cs : List Ck) (gs : List Nat) : Prop where
  len : cs.length = gs.length
  own : W.ownsRow z 44 2 v cs.length (cvs cs gs)
  body : ∀ (j : Nat) (c : Ck) (g : Nat), cs[j]? = some c → gs[j]? = some g → W.ownsRow z 5 1 (bval c g) c.2.length (u8s c.2)
  ok : ∀ c ∈ cs, c.Ok
  nod : gs.Nodup
  big : ∀ c ∈ cs, c.2.length ≤ 281474976710656
theorem Ans.nil (W : World) (z : Nat) : Ans W z (.slice none 0 0) [] [] := ⟨rfl, World.ownsRow_nil _ _ _ _, fun j c g h _ => by simp at h, fun c h => by simp at h, List.nodup_nil, fun c h => by simp at h⟩
theorem Ans.bp {S : Nat → Prop} {W X : World} {z : Nat} {v : Value} {cs : List Ck} {gs : List Nat} (h : Ans W z v cs gs) (hb : BP S W X) (h1 : ∀ b, v.ownBlock = some b → ¬ S b) (h2 : ∀ b ∈ gs, ¬ S b) : Ans X z v cs gs :=
  ⟨h.len, own_keep hb h.own h1, fun j c g hc hg => own_keep hb (h.body j c g hc hg) fun b hb2 => by
    have e : g = b := by simpa [Value.ownBlock] using hb2
    subst e
    exact h2 _ (List.mem_of_getElem? hg), h.ok, h.nod, h.big⟩
theorem Ans.keep {W X : World} {z : Nat} {v : Value} {cs : List Ck} {gs : List Nat} (h : Ans W z v cs gs) (hb : Below W.heap.size W X) : Ans X z v cs gs := h.bp (S := fun _ => False) (BP.bel hb) (fun _ _ h => h) (fun _ _ h => h)
theorem Ans.apart {W : World} {z : Nat} {v : Value} {cs : List Ck} {gs : List Nat} (h : Ans W z v cs gs) : ∀ b ∈ gs, v.ownBlock ≠ some b := fun b hb => by
  obtain ⟨j, hj⟩ := List.getElem?_of_mem hb
  have hl : j < cs.length := by
    rw [h.len]
    refine Classical.byContradiction fun hn => ?_
    rw [List.getElem?_eq_none (by omega)] at hj
    exact absurd hj (by simp)
  exact own_ne (h.body j _ b (List.getElem?_eq_getElem hl) hj) h.own (by decide) b rfl
theorem Ans.lt {W : World} {z : Nat} {v : Value} {cs : List Ck} {gs : List Nat} (h : Ans W z v cs gs) : ∀ b ∈ gs, z ≤ b ∧ b < W.heap.size := fun b hb => by
  obtain ⟨j, hj⟩ := List.getElem?_of_mem hb
  have hl : j < cs.length := by
    rw [h.len]
    refine Classical.byContradiction fun hn => ?_
    rw [List.getElem?_eq_none (by omega)] at hj
    exact absurd hj (by simp)
  exact (h.body j _ b (List.getElem?_eq_getElem hl) hj).lt b rfl
theorem Ans.push {W X : World} {z g : Nat} {v v' : Value} {cs : List Ck} {gs : List Nat} {c : Ck} (h : Ans W z v cs gs) (hb : W.ownsRow z 5 1 (bval c g) c.2.length (u8s c.2)) (hg : g ∉ gs) (hc : c.Ok) (hc2 : c.2.length ≤ 281474976710656)
    (ho : X.ownsRow z 44 2 v' (cs.length + 1) (cvs cs gs ++ [.int .u32 (c.1 : Nat), bval c g])) (hx : BP (fun b => v.ownBlock = some b) W X) : Ans X z v' (cs ++ [c]) (gs ++ [g]) := by
  refine ⟨by simp [h.len], ?_, fun j d b hd hb2 => ?_, fun d hd => ?_, ?_, fun d hd => ?_⟩
  · rw [cvs_app c g h.len, List.length_append]
    exact ho
  · rw [List.getElem?_append] at hd hb2
    by_cases hj : j < cs.length
    · rw [if_pos hj] at hd
      rw [if_pos (by rw [← h.len]; exact hj)] at hb2
      refine own_keep hx (h.body j d b hd hb2) fun b' hb' he => ?_
      have e : b = b' := by simpa [Value.ownBlock] using hb'
      subst e
      exact h.apart b (List.mem_of_getElem? hb2) he
    · rw [if_neg hj] at hd
      rw [if_neg (by rw [← h.len]; exact hj)] at hb2
      have hz : j - cs.length = 0 := by
        refine Classical.byContradiction fun hn => ?_
        rw [List.getElem?_eq_none (by simp; omega)] at hd
        exact absurd hd (by simp)
      rw [← h.len, hz] at hb2
      rw [hz] at hd
      simp at hd hb2
      subst hd hb2
      exact own_keep hx hb fun b' hb' he => own_ne hb h.own (by decide) b' hb' he
  · rcases List.mem_append.1 hd with hd | hd
    · exact h.ok d hd
    · simp at hd; subst hd; exact hc
  · rw [List.nodup_append]
    refine ⟨h.nod, by simp, fun a ha b hb2 he => ?_⟩
    simp at hb2
    subst hb2 he
    exact hg ha
  · rcases List.mem_append.1 hd with hd | hd
    · exact h.big d hd
    · simp at hd; subst hd; exact hc2
/-- It reads as these chunks. -/
theorem Ans.cs {W : World} {z : Nat} {lo : Option Addr} {n cap : Nat} {cs : List Ck} {gs : List Nat} (h : Ans W z (.slice lo n cap) cs gs) : n = cs.length ∧ Cs W lo cs := by
  have hn : n = cs.length := by
    rcases h.own.2 with ⟨e, e0⟩ | ⟨g, c, cur, e, _⟩
    · injection e with _ e _; rw [e, e0]
    · injection e
  subst hn
  refine ⟨rfl, fun j c hj => ?_⟩
  have hl : j < cs.length := by
    refine Classical.byContradiction fun hn => ?_
    rw [List.getElem?_eq_none (by omega)] at hj
    exact absurd hj (by simp)
  have hg : gs[j]? = some (gs[j]'(by rw [← h.len]; exact hl)) := List.getElem?_eq_getElem _
  obtain ⟨e1, e2⟩ := cvs_at hj hg
  have hbd := h.body j c _ hj hg
  have hok := h.ok c (List.mem_of_getElem? hj)
  rcases h.own.2 with ⟨_, e0⟩ | ⟨g, cp, cur, e, _⟩
  · omega
  · injection e with e _ _
    subst e
    refine ⟨g, 0, _, c.2.length, rfl, ?_, ?_, own_by hbd hok.2, hok.1, h.big c (List.mem_of_getElem? hj)⟩
    · rw [Nat.zero_add, World.ownsRow.cellAt (n := cs.length) (cap := cap) (by exact h.own) _ (by omega)]
      exact e1
    · rw [Nat.zero_add, World.ownsRow.cellAt (n := cs.length) (cap := cap) (by exact h.own) _ (by omega)]
      exact e2
end Go.Proofs.YtbpglkhgggokcaaDoor
