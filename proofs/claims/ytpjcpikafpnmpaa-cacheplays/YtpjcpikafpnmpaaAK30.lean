/- What is known of the keys kept. -/
import Derived.Test.YtpjcpikafpnmpaaAK29
namespace Go.Proofs.Ytpjcpikafpnmpaa
open Go.RowKit

theorem kn_of (s : ByteArray) : ∀ (ys : List Oq) (st : Option Oq) (o : Oq), ys.foldl (knS s) st = some o → (st = some o) ∨ (o ∈ ys ∧ o.k = s ∧ o.k.size ≤ 65536)
  | [], st, o, h => .inl h
  | y :: ys, st, o, h => by
    rcases kn_of s ys (knS s st y) o h with h1 | ⟨h1, h2⟩
    · unfold knS at h1
      split at h1
      · split at h1
        · rename_i h2
          injection h1 with h1; subst h1
          exact .inr ⟨by simp, h2⟩
        · exact .inl h1
      · split at h1
        · split at h1
          · cases h1
          · exact .inl h1
        · split at h1
          · cases h1
          · exact .inl h1
    · exact .inr ⟨by simp [h1], h2⟩
theorem kn_is {ys : List Oq} {s : ByteArray} {o : Oq} (h : kn ys s = some o) : o ∈ ys ∧ o.k = s ∧ o.k.size ≤ 65536 := (kn_of s ys none o h).resolve_left (by simp)
theorem Lo.mem {W : World} {ao : Option Addr} {xs : List Oq} (h : Lo W ao xs) {o : Oq} (ho : o ∈ xs) : Nm W o.la o.l ∧ o.l.length ≤ 17592186043904 := by
  obtain ⟨j, hj, e⟩ := List.mem_iff_getElem.1 ho
  obtain ⟨g, o', _, oc⟩ := h j o (by rw [← e]; exact List.getElem?_eq_getElem hj)
  exact ⟨oc.nm, oc.nz⟩
/-- What is kept is what was put last. -/
def Iv (xs : List Oq) (i : Nat) (E : List En) : Prop := ∀ e ∈ E, ∃ o, kn (xs.take i) e.1 = some o ∧ o.l = e.2.1 ∧ o.ag = e.2.2
theorem Iv.nil (xs : List Oq) (i : Nat) : Iv xs i [] := fun e he => by simp at he
theorem Iv.keep {xs : List Oq} {i : Nat} {E E' : List En} (h : Iv xs i E) {x : Oq} (hx : xs[i]? = some x) (hs : ∀ e ∈ E', e ∈ E ∧ knS e.1 (kn (xs.take i) e.1) x = kn (xs.take i) e.1) : Iv xs (i + 1) E' := fun e he => by
  obtain ⟨h1, h2⟩ := hs e he
  obtain ⟨o, h3, h4⟩ := h e h1
  exact ⟨o, by rw [kn_step xs e.1 i x hx, h2, h3], h4⟩
theorem wo_sub {E : List En} {s : ByteArray} {e : En} (h : e ∈ wo E s) : e ∈ E ∧ e.1 ≠ s := by
  have := List.mem_filter.1 h
  refine ⟨this.1, fun e' => ?_⟩
  simp [is, e'] at this
theorem gt_sub {E : List En} {s : ByteArray} {e : En} (h : e ∈ gtE E s) : e ∈ E := by
  unfold gtE at h
  split at h
  · rename_i e' he
    rcases List.mem_cons.1 h with rfl | h
    · exact (at_some he).1
    · exact (wo_sub h).1
  · exact h
theorem Iv.get {xs : List Oq} {i : Nat} {E : List En} (h : Iv xs i E) {x : Oq} (hx : xs[i]? = some x) (hk : x.kd = 1) (s : ByteArray) : Iv xs (i + 1) (gtE E s) :=
  h.keep hx fun e he => ⟨gt_sub he, by unfold knS; rw [hk]; rfl⟩
theorem Iv.rest {xs : List Oq} {i : Nat} {E : List En} (h : Iv xs i E) {x : Oq} (hx : xs[i]? = some x) (h2 : ¬ x.kd = 2) (h3 : ¬ x.kd = 3) (h6 : ¬ x.kd = 6) : Iv xs (i + 1) E :=
  h.keep hx fun e he => ⟨he, by unfold knS; rw [if_neg h2, if_neg h3, if_neg h6]⟩
theorem Iv.forget {xs : List Oq} {i : Nat} {E : List En} (h : Iv xs i E) {x : Oq} (hx : xs[i]? = some x) (hk : x.kd = 3) : Iv xs (i + 1) (fgE E x.k) :=
  h.keep hx fun e he => by
    have := List.mem_filter.1 he
    refine ⟨this.1, ?_⟩
    have hp : pf x.k e.1 = false := by simpa using this.2
    unfold knS
    rw [hk, if_neg (by decide), if_pos rfl, hp]
    rfl
theorem Iv.put {xs : List Oq} {i : Nat} {E : List En} (h : Iv xs i E) {x : Oq} (hx : xs[i]? = some x) (hk : x.kd = 2) (r : Nat) : Iv xs (i + 1) (gtE (puE r E x.k x.l x.ag) x.k) := by
  by_cases hz : x.k.size ≤ 65536
  · unfold puE
    rw [if_pos hz]
    intro e he
    have h1 := List.mem_of_mem_take (gt_sub he)
    rcases List.mem_cons.1 h1 with rfl | h1
    · refine ⟨x, ?_, rfl, rfl⟩
      rw [kn_step xs _ i x hx]
      unfold knS
      rw [if_pos hk, if_pos ⟨rfl, hz⟩]
    · obtain ⟨h2, h3⟩ := wo_sub h1
      obtain ⟨o, h4, h5⟩ := h e h2
      refine ⟨o, ?_, h5⟩
      rw [kn_step xs _ i x hx]
      unfold knS
      rw [if_pos hk, if_neg (fun h => h3 h.1.symm), h4]
  · unfold puE
    rw [if_neg hz]
    exact h.keep hx fun e he => ⟨gt_sub he, by unfold knS; rw [if_pos hk, if_neg (fun h => hz h.2)]⟩
def inK (K : List ByteArray) (s : ByteArray) : Bool := K.any fun x => decide (x = s)
theorem inK_is {K : List ByteArray} {s : ByteArray} : inK K s = true ↔ s ∈ K := by
  unfold inK
  rw [List.any_eq_true]
  exact ⟨fun ⟨x, h1, h2⟩ => (of_decide_eq_true h2) ▸ h1, fun h => ⟨s, h, decide_eq_true rfl⟩⟩
theorem inK_step (K : List ByteArray) (s x : ByteArray) (j : Nat) (h : K[j]? = some x) : inK (K.take (j + 1)) s = (inK (K.take j) s || decide (x = s)) := by
  unfold inK
  rw [List.take_add_one, h, List.any_append]
  simp
theorem gtB_is (E : List En) (s : ByteArray) : gtB E s = inK (E.map (·.1)) s := by
  rw [Bool.eq_iff_iff, inK_is]
  unfold gtB
  cases h : atE E s with
  | some e =>
    obtain ⟨h1, h2⟩ := at_some h
    exact ⟨fun _ => List.mem_map.2 ⟨e, h1, h2⟩, fun _ => rfl⟩
  | none =>
    refine ⟨fun h => (by cases h), fun hm => ?_⟩
    obtain ⟨e, h1, h2⟩ := List.mem_map.1 hm
    have := List.find?_eq_none.1 h e h1
    simp [is, h2] at this
theorem gt_found {E : List En} {s : ByteArray} (h : gtB E s = true) : ∃ e ∈ E, e.1 = s ∧ gtL E s = e.2.1 ∧ gtA E s = e.2.2 := by
  unfold gtB at h
  obtain ⟨e, he⟩ := Option.isSome_iff_exists.1 h
  obtain ⟨h1, h2⟩ := at_some he
  refine ⟨e, h1, h2, ?_, ?_⟩
  · unfold gtL; rw [he]
  · unfold gtA; rw [he]
theorem gt_miss {E : List En} {s : ByteArray} (h : gtB E s = false) : gtL E s = [] ∧ gtA E s = 0 := by
  unfold gtB at h
  unfold gtL gtA
  cases he : atE E s with
  | none => exact ⟨rfl, rfl⟩
  | some e => rw [he] at h; cases h
theorem at_put (r : Nat) (hr : 1 ≤ r) (E : List En) (s : ByteArray) (l : List Int) (a : Int) : atE (ptE r E (s, l, a)) s = some (s, l, a) := by
  obtain ⟨r, rfl⟩ : ∃ q, r = q + 1 := ⟨r - 1, by omega⟩
  unfold atE ptE
  rw [List.take_succ_cons, List.find?_cons_of_pos (by simp [is])]
theorem gt_put (r : Nat) (hr : 1 ≤ r) (E : List En) (s : ByteArray) (l : List Int) (a : Int) : gtB (ptE r E (s, l, a)) s = true ∧ gtL (ptE r E (s, l, a)) s = l ∧ gtA (ptE r E (s, l, a)) s = a := by
  unfold gtB gtL gtA
  rw [at_put r hr E s l a]
  exact ⟨rfl, rfl, rfl⟩
/-- A key that is too long is not there. -/
theorem gt_long {xs : List Oq} {i : Nat} {E : List En} (h : Iv xs i E) {s : ByteArray} (hz : ¬ s.size ≤ 65536) : gtB E s = false := by
  cases hb : gtB E s with
  | false => rfl
  | true =>
    obtain ⟨e, h1, h2, _⟩ := gt_found hb
    obtain ⟨o, h3, _⟩ := h e h1
    obtain ⟨_, h4, h5⟩ := kn_is h3
    rw [h4, h2] at h5
    exact absurd h5 hz
theorem fg_le (E : List En) (s : ByteArray) : (fgE E s).length ≤ E.length := List.length_filter_le _ _
/-- A list of keys of the cache's own, laid: how many there are. -/
theorem Kl.form {w : World} {M : Nat} {v : Value} {ks : List ByteArray} {ss : List Value} (h : Kl w M v ks ss) {n : Nat} (hn : ks.length = n) : ∃ ao cap, v = .slice ao n cap ∧ Kd w ao ks := by
  obtain ⟨ao, cap, e, kd⟩ := h.kd
  exact ⟨ao, cap, by rw [e, hn], kd⟩
end Go.Proofs.Ytpjcpikafpnmpaa
