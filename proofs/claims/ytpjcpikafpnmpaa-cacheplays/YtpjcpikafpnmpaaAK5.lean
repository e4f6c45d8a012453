/- CACHE: the whole cache in memory; letGo, add. -/
import Derived.Test.YtpjcpikafpnmpaaAK4
namespace Go.Proofs.Ytpjcpikafpnmpaa
open Go.RowKit

abbrev kl (s : ByteArray) : Lit := .string s.data.toList
/-- The map: each entry's key leads to it, nothing else to anything. -/
def Mp (w : World) (bm : Nat) (L : List Ce) : Prop := ∃ D : DataW Unit, w.ownsMap Try.prog 9 pel bm L.length D ∧ (∀ x ∈ L, D.atKey (kl x.k) .nil = .lit (.int .i64 x.b)) ∧ (∀ s : ByteArray, (∀ x ∈ L, x.k ≠ s) → Maps.has D (kl s) = false) ∧ Maps.size D = L.length
theorem map_block {w w' : World} {bm n : Nat} {D : DataW Unit} (h : w.ownsMap Try.prog 9 pel bm n D) (e : w'.heap[bm]? = w.heap[bm]?) : w'.ownsMap Try.prog 9 pel bm n D := by
  obtain ⟨es, clock, hb, r⟩ := h
  exact ⟨es, clock, e.trans hb, r⟩
theorem Mp.keep {w w' : World} {bm : Nat} {L : List Ce} (h : Mp w bm L) (e : w'.heap[bm]? = w.heap[bm]?) : Mp w' bm L := by
  obtain ⟨D, h1, h2⟩ := h
  exact ⟨D, map_block h1 e, h2⟩
theorem Mp.is {w : World} {bm : Nat} {L : List Ce} (h : Mp w bm L) : ∃ es clock, w.heap[bm]? = some (.map es clock) := by
  obtain ⟨D, ⟨es, clock, hb, _⟩, _⟩ := h
  exact ⟨es, clock, hb⟩
theorem Mp.ne {w : World} {bm : Nat} {L : List Ce} (h : Mp w bm L) {b t n : Nat} {f : Nat → Value} (r : w.rowIs b t n f) : bm ≠ b := by
  rintro rfl
  obtain ⟨es, clock, e⟩ := h.is
  obtain ⟨c, e', _⟩ := r
  rw [e] at e'
  cases e'
theorem Mp.lt {w : World} {bm : Nat} {L : List Ce} (h : Mp w bm L) : bm < w.heap.size := by
  obtain ⟨D, h1, _⟩ := h; exact h1.lt
/-- 'e, there := entries[key]': there. -/
theorem Mp.hit {w : World} {bm : Nat} {L : List Ce} (h : Mp w bm L) {x : Ce} (hx : x ∈ L) (hz : x.k.size ≤ 65536) : ∀ W : World, W.heap[bm]? = w.heap[bm]? → (Instr.lookup 70 (.map (some bm)) (.string x.k) true).run Try.prog W = .ok (.tuple #[.pointer (some ⟨x.b, 0, none⟩), .bool true]) W := by
  intro W e
  obtain ⟨D, h1, h2, h3, h4⟩ := h
  obtain ⟨v, ps, hrun, hv⟩ := (map_block h1 e).look_ok kstr tmap (zptr W) (zd := .nil) (zp := []) rfl (key_of (s := x.k) (by omega))
  have hat := h2 x hx
  have hh : Maps.has D (kl x.k) = true := by
    cases hb : Maps.has D (kl x.k) with
    | true => rfl
    | false => rw [Maps.atKey_of_not_has hb] at hat; cases hat
  rw [hat] at hv
  obtain rfl := pel_int hv
  rw [hh] at hrun
  exact hrun
/-- .. not there. -/
theorem Mp.miss {w : World} {bm : Nat} {L : List Ce} (h : Mp w bm L) {s : ByteArray} (hs : ∀ x ∈ L, x.k ≠ s) (hz : s.size ≤ 9223372036854775807) : ∀ W : World, W.heap[bm]? = w.heap[bm]? → (Instr.lookup 70 (.map (some bm)) (.string s) true).run Try.prog W = .ok (.tuple #[.pointer none, .bool false]) W := by
  intro W e
  obtain ⟨D, h1, h2, h3, h4⟩ := h
  obtain ⟨v, ps, hrun, hv⟩ := (map_block h1 e).look_ok kstr tmap (zptr W) (zd := .nil) (zp := []) rfl (key_of (s := s) hz)
  have hh := h3 s hs
  rw [Maps.atKey_of_not_has hh] at hv
  obtain rfl := pel_nil hv
  rw [hh] at hrun
  exact hrun
theorem Mp.len {w : World} {bm : Nat} {L : List Ce} (h : Mp w bm L) : ∀ (ty : TypeId) (W : World), W.heap[bm]? = w.heap[bm]? → (Builtin.len_ #[70] ty #[.map (some bm)]).run Try.prog W = .ok (.int .i64 L.length) W := by
  intro ty W e
  obtain ⟨D, h1, h2, h3, h4⟩ := h
  have := (map_block h1 e).len tmap ty
  rwa [h4] at this
theorem kl_ne {s t : ByteArray} (h : s ≠ t) : kl s ≠ kl t := fun e => h (str_inj e)
/-- A new key. -/
theorem mp_put {w' : World} {bm : Nat} {L : List Ce} {D : DataW Unit} {x : Ce} (h1 : w'.ownsMap Try.prog 9 pel bm (L.length + 1) (D.put (kl x.k) (.lit (.int .i64 x.b)))) (hi : Maps.Tidy D)
    (h2 : ∀ x ∈ L, D.atKey (kl x.k) .nil = .lit (.int .i64 x.b)) (h3 : ∀ s : ByteArray, (∀ x ∈ L, x.k ≠ s) → Maps.has D (kl s) = false) (h4 : Maps.size D = L.length) (hn : ∀ y ∈ L, y.k ≠ x.k) : Mp w' bm (x :: L) := by
  have hne := h3 x.k hn
  refine ⟨_, h1, fun y hy => ?_, fun s hs => ?_, ?_⟩
  · rcases List.mem_cons.1 hy with rfl | hy
    · exact Maps.atKey_put_same (k := kl y.k) hi.isMap (show WideAt.IsKeyLit (kl y.k) from trivial) _ _
    · rw [Maps.atKey_put_other (kl_ne (hn y hy))]
      exact h2 y hy
  · rw [Maps.has_put_other (kl_ne (hs x (by simp)).symm)]
    exact h3 s fun y hy => hs y (by simp [hy])
  · rw [Maps.size_put hi, hne]
    simp [h4]
/-- A key less. -/
theorem mp_del {w' : World} {bm n : Nat} {A C : List Ce} {D : DataW Unit} {x : Ce} (h1 : w'.ownsMap Try.prog 9 pel bm n (D.del (kl x.k))) (hi : Maps.Tidy D)
    (h2 : ∀ y ∈ A ++ x :: C, D.atKey (kl y.k) .nil = .lit (.int .i64 y.b)) (h3 : ∀ s : ByteArray, (∀ y ∈ A ++ x :: C, y.k ≠ s) → Maps.has D (kl s) = false) (h4 : Maps.size D = (A ++ x :: C).length) (hn : ∀ y ∈ A ++ C, y.k ≠ x.k) : Mp w' bm (A ++ C) := by
  have hh : Maps.has D (kl x.k) = true := by
    have hat := h2 x (by simp)
    cases hb : Maps.has D (kl x.k) with
    | true => rfl
    | false => rw [Maps.atKey_of_not_has hb] at hat; cases hat
  have hsz : Maps.size (D.del (kl x.k)) = (A ++ C).length := by
    have := Maps.size_del (k := kl x.k) hi
    rw [hh, h4] at this
    simp at this ⊢
    omega
  refine ⟨_, hsz ▸ World.ownsMap.tight h1, fun y hy => ?_, fun s hs => ?_, hsz⟩
  · rw [Maps.atKey_del_other (kl_ne (hn y hy))]
    exact h2 y (by rcases List.mem_append.1 hy with h | h <;> simp [h])
  · by_cases e : s = x.k
    · subst e; exact Maps.has_del_same
    · rw [Maps.has_del_other (kl_ne e)]
      refine h3 s fun y hy => ?_
      rcases List.mem_append.1 hy with h | h
      · exact hs y (by simp [h])
      · rcases List.mem_cons.1 h with rfl | h
        · exact fun e' => e e'.symm
        · exact hs y (by simp [h])
/-- The cache, all of its blocks in S. -/
structure Ch (w : World) (S : Nat → Prop) (p : Nat) (rm mu : Int) (bm : Nat) (h m : Int) (L : List Ce) : Prop where
  rw : Rw w p rm mu bm h m L
  mp : Mp w bm L
  lg : ∀ x ∈ L, Ow w 0 x.v x.l
  ks : (L.map (·.k)).Nodup
  kz : ∀ x ∈ L, x.k.size ≤ 65536 ∧ x.l.length * 8 ≤ 140737488355328
  sp : S p
  sm : S bm
  se : ∀ x ∈ L, S x.b ∧ ∀ g, x.v.ownBlock = some g → S g
  rom : 1 ≤ rm ∧ rm ≤ 4096 ∧ (L.length : Int) ≤ rm
  cnt : 0 ≤ h ∧ 0 ≤ m
theorem Ch.keep {w w' : World} {S : Nat → Prop} {p : Nat} {rm mu : Int} {bm : Nat} {h m : Int} {L : List Ce} (c : Ch w S p rm mu bm h m L) (hk : ∀ k, S k → k < w.heap.size → w'.heap[k]? = w.heap[k]?) : Ch w' S p rm mu bm h m L :=
  ⟨c.rw.keep (hk _ c.sp c.rw.box.lt) (fun x hx => hk _ (c.se x hx).1 (by obtain ⟨_, _, e⟩ := c.rw.seg.at x hx; exact e.lt)), c.mp.keep (hk _ c.sm c.mp.lt), fun x hx => (c.lg x hx).block fun g hg => hk g ((c.se x hx).2 g hg) ((c.lg x hx).lt g hg).2, c.ks, c.kz, c.sp, c.sm, c.se, c.rom, c.cnt⟩
theorem Ch.below {w w' : World} {S : Nat → Prop} {p : Nat} {rm mu : Int} {bm : Nat} {h m : Int} {L : List Ce} (c : Ch w S p rm mu bm h m L) (hb : Below w.heap.size w w') : Ch w' S p rm mu bm h m L := c.keep fun k _ hk => hb.block k hk
/-- Numbers lie in no block of the row. -/
theorem lg_bp {w w' : World} {p : Nat} {rm mu : Int} {bm : Nat} {h m : Int} {L L' : List Ce} {S : Nat → Prop} (r : Rw w p rm mu bm h m L) (hS : ∀ k, S k → Rb p L k) (hb : BP S w w') (hl : ∀ x ∈ L', Ow w 0 x.v x.l) : ∀ x ∈ L', Ow w' 0 x.v x.l := fun x hx => by
  refine (hl x hx).block fun g hg => ?_
  rcases (hl x hx).form with ⟨e, _⟩ | ⟨g', cap, f, e, _, row, _⟩
  · rw [e] at hg; cases hg
  · rw [e] at hg
    injection hg with hg
    subst hg
    refine hb.block _ row.lt fun hs => ?_
    rcases hS _ hs with e' | ⟨y, hy, e'⟩
    · exact row_ne row r.box (by decide) e'
    · obtain ⟨_, _, ey⟩ := r.seg.at y hy
      exact row_ne row ey (by decide) e'.symm
theorem mp_bp {w w' : World} {p : Nat} {rm mu : Int} {bm : Nat} {h m : Int} {L L' : List Ce} {S : Nat → Prop} (r : Rw w p rm mu bm h m L) (hS : ∀ k, S k → Rb p L k) (hb : BP S w w') (hp : Mp w bm L') : Mp w' bm L' := by
  refine hp.keep (hb.block _ hp.lt fun hs => ?_)
  rcases hS _ hs with e' | ⟨y, hy, e'⟩
  · exact hp.ne r.box e'
  · obtain ⟨_, _, ey⟩ := r.seg.at y hy
    exact hp.ne ey e'.symm
end Go.Proofs.Ytpjcpikafpnmpaa
