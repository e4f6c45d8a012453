import Derived.Test.YtkodihmjjiadnaaQANetSpoilt
import Derived.Test.YtkodihmjjiadnaaQCNetSpoilt
import Derived.Deep.MidRow
import Derived.Test.YtkodihmjjiadnaaNO6
import Derived.Laws.AppendOwnNone
import Derived.Maps.AppendAt
import Derived.Deep.RegionHeld3
/- NETWORKS: THE COPY OF A NETWORK, what its walk needs. -/
namespace Go.Proofs.Ytkodihmjjiadnaa.Nn
open Go.RowKit

/-- A layer with its lists elsewhere. -/
abbrev cpy (L : Ly) (a1 : Option Addr) (c1 : Nat) (a2 : Option Addr) (c2 : Nat) (a3 : Option Addr) (c3 : Nat) : Ly := ⟨L.kd, L.wt, L.k, L.r, L.s, L.sy, L.sx, L.t, L.l, L.b, L.q, L.bd, a1, L.mw, c1, a2, L.mn, c2, a3, L.mb, c3, L.ws, L.ns, L.bs⟩
theorem cl_rl (L : Ly) : ∀ n, cl (n * 8) (nmc L) = nmL L.ns n
  | 0 => rfl
  | n + 1 => by
    rw [nmL, ← cl_rl L n]
    have e : (n + 1) * 8 = n * 8 + 8 := by omega
    have h : ∀ c, c < 8 → nmc L (n * 8 + c) = .int .i64 (L.ns n c) := fun c hc => by
      unfold nmc
      rw [show (n * 8 + c) / 8 = n by omega, show (n * 8 + c) % 8 = c by omega]
    unfold cl
    rw [e]
    simp only [List.range_succ, List.map_append, List.map_cons, List.map_nil, List.append_assoc]
    rw [h 1 (by decide), h 2 (by decide), h 3 (by decide), h 4 (by decide), h 5 (by decide), h 6 (by decide), h 7 (by decide)]
    have h0 := h 0 (by decide)
    rw [Nat.add_zero] at h0
    rw [h0]
    rfl
theorem Co.lo {X : World} {b : Nat} {L : Ly} {a1 a2 a3 : Option Addr} {c1 c2 c3 : Nat} (h : Co X b L a1 c1 a2 c2 a3 c3) : Lo X b (cpy L a1 c1 a2 c2 a3 c3) := by
  obtain ⟨h1, h2, h3⟩ := h
  refine ⟨?_, ?_, ?_⟩
  · have e : i8L ((List.range L.mw).map L.ws) = cl L.mw fun j => .int .i8 (L.ws j) := by simp [i8L, cl, List.map_map, Function.comp_def]
    show X.ownsRow b _ 1 _ _ (i8L ((List.range L.mw).map L.ws))
    rw [e]; exact h1
  · show X.ownsRow b _ 8 _ _ (nmL L.ns L.mn)
    rw [← cl_rl]; exact h2
  · have e : i64L ((List.range L.mb).map L.bs) = cl L.mb fun j => .int .i64 (L.bs j) := by simp [i64L, cl, List.map_map, Function.comp_def]
    show X.ownsRow b _ 1 _ _ (i64L ((List.range L.mb).map L.bs))
    rw [e]; exact h3
/-- A list with others laid into it from a place on. -/
def putL : List Value → Nat → List Value → List Value
  | xs, _, [] => xs
  | xs, o, v :: r => putL (xs.set o v) (o + 1) r
theorem putL_get : ∀ (vs : List Value) (xs : List Value) (o k : Nat), o + vs.length ≤ xs.length → (putL xs o vs)[k]? = if o ≤ k ∧ k < o + vs.length then vs[k - o]? else xs[k]?
  | [], xs, o, k, _ => by rw [putL, if_neg (by simp only [List.length_nil]; omega)]
  | v :: r, xs, o, k, h => by
    simp only [List.length_cons] at h ⊢
    rw [putL, putL_get r (xs.set o v) (o + 1) k (by rw [List.length_set]; omega)]
    by_cases hk : k = o
    · subst hk
      rw [if_neg (by omega), if_pos (by omega), Nat.sub_self, List.getElem?_set_self (by omega)]
      rfl
    · by_cases h1 : o + 1 ≤ k ∧ k < o + 1 + r.length
      · rw [if_pos h1, if_pos (by omega), show k - o = (k - (o + 1)) + 1 by omega, List.getElem?_cons_succ]
      · rw [if_neg h1, if_neg (by omega), List.getElem?_set_ne (by omega)]
theorem own_setCells {base e size g n cap : Nat} : ∀ (vs : List Value) (o : Nat) (W : World) (xs : List Value), W.ownsRow base e size (.slice (some ⟨g, 0, none⟩) n cap) n xs → (W.setCells g o vs).ownsRow base e size (.slice (some ⟨g, 0, none⟩) n cap) n (putL xs o vs) ∧ W.grownBy (W.setCells g o vs) (some g)
  | [], _, W, _, h => ⟨h, gr_refl W _⟩
  | v :: r, o, W, xs, h => by
    obtain ⟨h1, h2⟩ := h.stored o v
    obtain ⟨h3, h4⟩ := own_setCells r (o + 1) _ _ h1
    exact ⟨h3, gr_step h2 h4 (.inl rfl)⟩
theorem lyC_len (L : Ly) : (lyC L).length = 15 := rfl
theorem ls_put {lf : Nat → Ly} {M i : Nat} (hi : i < M) (L : Ly) : putL (lyLs lf M) (i * 15) (lyC L) = lyLs (sn lf i L) M := by
  apply List.ext_getElem?
  intro k
  have hl : (lyLs lf M).length = M * 15 := rl_len (s := 15) (fun _ => rfl) M
  have hl2 : (lyLs (sn lf i L) M).length = M * 15 := rl_len (s := 15) (fun _ => rfl) M
  rw [putL_get _ _ _ _ (by rw [hl, lyC_len]; omega), lyC_len]
  by_cases hk : k < M * 15
  · have e : k = (k / 15) * 15 + k % 15 := by omega
    have h1 : (lyLs (sn lf i L) M)[k]? = (lyC (sn lf i L (k / 15)))[k % 15]? := by
      conv => lhs; rw [e]
      exact rl_get (s := 15) (fun _ => rfl) M (by omega) (by omega)
    have h2 : (lyLs lf M)[k]? = (lyC (lf (k / 15)))[k % 15]? := by
      conv => lhs; rw [e]
      exact rl_get (s := 15) (fun _ => rfl) M (by omega) (by omega)
    rw [h1, h2]
    by_cases hj : k / 15 = i
    · rw [if_pos (by omega), show k - i * 15 = k % 15 by omega]
      unfold sn
      rw [if_pos hj]
    · rw [if_neg (by omega)]
      unfold sn
      rw [if_neg hj]
  · rw [if_neg (by omega), List.getElem?_eq_none (by omega), List.getElem?_eq_none (by omega)]
/-- The copies so far, and what is still the old. -/
def mx (cf lf : Nat → Ly) (i : Nat) : Nat → Ly := fun j => if j < i then cf j else lf j
theorem mx_zero (cf lf : Nat → Ly) : mx cf lf 0 = lf := by funext j; simp [mx]
theorem mx_at (cf lf : Nat → Ly) (i : Nat) : mx cf lf i i = lf i := by simp [mx]
theorem mx_snoc (cf lf : Nat → Ly) (i : Nat) (L : Ly) : sn (mx cf lf i) i L = mx (sn cf i L) lf (i + 1) := by
  funext j
  by_cases h : j = i
  · subst h; simp [sn, mx]
  · by_cases h2 : j < i
    · simp [sn, mx, h, h2, show j < i + 1 by omega]
    · simp [sn, mx, h, h2, show ¬ j < i + 1 by omega]
theorem mx_full (cf lf : Nat → Ly) {M : Nat} : lyLs (mx cf lf M) M = lyLs cf M := rl_congr M fun j hj => by unfold mx; rw [if_pos hj]
/-- A list's own block. -/
abbrev obW (L : Ly) : Option Nat := (Value.slice L.aw L.mw L.cw).ownBlock
abbrev obB (L : Ly) : Option Nat := (Value.slice L.ab L.mb L.cb).ownBlock
abbrev obN (L : Ly) : Option Nat := (Value.slice L.an L.mn L.cn).ownBlock
/-- No two layers share a list. -/
def Dis (cf : Nat → Ly) (i : Nat) : Prop := ∀ j, j < i → ∀ j', j' < i → j ≠ j' → (∀ q, obW (cf j) = some q → obW (cf j') ≠ some q) ∧ (∀ q, obB (cf j) = some q → obB (cf j') ≠ some q) ∧ (∀ q, obN (cf j) = some q → obN (cf j') ≠ some q)
theorem Dis.zero (cf : Nat → Ly) : Dis cf 0 := fun j hj => absurd hj (Nat.not_lt_zero j)
theorem Dis.snoc {cf : Nat → Ly} {i : Nat} {L : Ly} (h : Dis cf i) (hn : ∀ j, j < i → (∀ q, obW L = some q → obW (cf j) ≠ some q) ∧ (∀ q, obB L = some q → obB (cf j) ≠ some q) ∧ (∀ q, obN L = some q → obN (cf j) ≠ some q)) : Dis (sn cf i L) (i + 1) := by
  intro j hj j' hj' hne
  unfold sn
  by_cases h1 : j = i
  · subst h1
    rw [if_pos rfl, if_neg (by omega)]
    exact hn j' (by omega)
  · rw [if_neg h1]
    by_cases h2 : j' = i
    · subst h2
      rw [if_pos rfl]
      have := hn j (by omega)
      exact ⟨fun q e1 e2 => this.1 q e2 e1, fun q e1 e2 => this.2.1 q e2 e1, fun q e1 e2 => this.2.2 q e2 e1⟩
    · rw [if_neg h2]
      exact h j (by omega) j' (by omega) hne
/-- The layers' own list, copied. -/
theorem cloneLs (N : Nt) (w : World) (hN : NtW w N) (hm : N.ml * 168 ≤ 140737488355328) : Calls Try.prog 25 #[.slice N.al N.ml N.cl] w fun e w' => ∃ ua uc, e = .returned (.slice ua N.ml uc) ∧ w'.ownsRow w.heap.size 45 15 (.slice ua N.ml uc) N.ml (lyLs N.lf N.ml) ∧ Below w.heap.size w w' := by
  have hW := hN.1
  cases ha : N.al with
  | none =>
    have h0 : N.ml = 0 := by
      by_cases h : N.ml = 0
      · exact h
      · obtain ⟨g, o, e, _⟩ := hW 0 (by omega)
        rw [ha] at e; cases e
    rw [h0]
    refine (cloneL_nil N.cl w).mono ?_
    rintro e w' ⟨rfl, hb⟩
    exact ⟨none, 0, rfl, World.ownsRow_nil _ _ _ _, hb⟩
  | some ad =>
    rw [ha] at hW
    refine (cloneL_at ad N.ml N.cl (lyLs N.lf N.ml) w (rl_len (s := 15) (fun _ => rfl) _) (fun u hu => ?_) hm (fun k u hu => ?_)).mono ?_
    · obtain ⟨k, hk, rfl⟩ := List.mem_iff_getElem.1 hu
      have hl : (lyLs N.lf N.ml).length = N.ml * 15 := rl_len (s := 15) (fun _ => rfl) N.ml
      have e : (lyLs N.lf N.ml)[k]? = (lyC (N.lf (k / 15)))[k % 15]? := by
        conv => lhs; rw [show k = (k / 15) * 15 + k % 15 by omega]
        exact rl_get (s := 15) (fun _ => rfl) N.ml (by omega) (by omega)
      rw [List.getElem?_eq_getElem hk] at e
      have hm' := List.mem_of_getElem? e.symm
      simp only [lyC, List.mem_cons, List.not_mem_nil, or_false] at hm'
      rcases hm' with h | h | h | h | h | h | h | h | h | h | h | h | h | h | h <;> rw [h] <;> rfl
    · have hl : (lyLs N.lf N.ml).length = N.ml * 15 := rl_len (s := 15) (fun _ => rfl) N.ml
      have hk : k < N.ml * 15 := by have := (List.getElem?_eq_some_iff.1 hu).1; omega
      have e : (lyLs N.lf N.ml)[k]? = (lyC (N.lf (k / 15)))[k % 15]? := by
        conv => lhs; rw [show k = (k / 15) * 15 + k % 15 by omega]
        exact rl_get (s := 15) (fun _ => rfl) N.ml (by omega) (by omega)
      rw [hu] at e
      obtain ⟨g, o, e1, hc, _⟩ := hW (k / 15) (by omega)
      cases e1
      rw [Addr.add_mid, show o + k = o + k / 15 * 15 + k % 15 by omega]
      obtain ⟨c0, c1, c2, c3, c4, c5, c6, c7, c8, c9, c10, c11, c12, c13, c14⟩ := hc
      have hr := Nat.mod_lt k (show 0 < 15 by decide)
      generalize o + k / 15 * 15 = z at *
      generalize k % 15 = r at *
      rcases (show r = 0 ∨ r = 1 ∨ r = 2 ∨ r = 3 ∨ r = 4 ∨ r = 5 ∨ r = 6 ∨ r = 7 ∨ r = 8 ∨ r = 9 ∨ r = 10 ∨ r = 11 ∨ r = 12 ∨ r = 13 ∨ r = 14 by omega) with h | h | h | h | h | h | h | h | h | h | h | h | h | h | h <;> subst h <;> simp only [lyC, List.getElem?_cons_succ, List.getElem?_cons_zero, Nat.add_zero] at e ⊢ <;> rw [e] <;> assumption
    · rintro e w' ⟨G, K, rfl, _, ow, hb⟩
      exact ⟨_, _, rfl, ow, hb⟩
end Go.Proofs.Ytkodihmjjiadnaa.Nn
/- NETWORKS: THE COPY OF A NETWORK, its walk. -/
namespace Go.Proofs.Ytkodihmjjiadnaa.Nn
open Go.RowKit

/-- The copy under way. -/
def CS (W : World) (b : Nat) (N : Nt) (G uc : Nat) (cf : Nat → Ly) (i : Nat) : Prop :=
  W.rowIs b 28 5 (netF N.nm N.h N.v N.c (.slice (some ⟨G, 0, none⟩) N.ml uc)) ∧ W.rowIs (b + 1) 28 5 (netF ⟨#[]⟩ 0 0 0 (.slice none 0 0)) ∧ W.ownsRow (b + 2) 45 15 (.slice (some ⟨G, 0, none⟩) N.ml uc) N.ml (lyLs (mx cf N.lf i) N.ml) ∧ (∀ j, j < i → Lo W (b + 2) (cf j) ∧ ∃ a1 c1 a2 c2 a3 c3, cf j = cpy (N.lf j) a1 c1 a2 c2 a3 c3) ∧ Dis cf i ∧ b + 2 ≤ W.heap.size
theorem CS.keep {W X : World} {b : Nat} {N : Nt} {G uc : Nat} {cf : Nat → Ly} {i : Nat} (k : CS W b N G uc cf i) (hb : Below W.heap.size W X) : CS X b N G uc cf i := by
  obtain ⟨a1, a2, a3, a4, a5, a6⟩ := k
  exact ⟨World.rowIs.of_block a1 (hb.block _ a1.lt), World.rowIs.of_block a2 (hb.block _ a2.lt), own_bl a3 hb, fun j hj => ⟨(a4 j hj).1.bl hb, (a4 j hj).2⟩, a5, Nat.le_trans a6 hb.size⟩
/-- A cell of the round's own box is set. -/
theorem CS.set {W : World} {b : Nat} {N : Nt} {G uc : Nat} {cf : Nat → Ly} {i c j : Nat} {u : Value} (k : CS W b N G uc cf i) (hb1 : b + 1 < c) (hG : G ≠ c) (hl : ∀ j, j < i → ∀ q, (obW (cf j) = some q ∨ obB (cf j) = some q ∨ (Value.slice (cf j).an (cf j).mn (cf j).cn).ownBlock = some q) → q ≠ c) : CS (W.setCell ⟨c, j, none⟩ u) b N G uc cf i := by
  obtain ⟨a1, a2, a3, a4, a5, a6⟩ := k
  refine ⟨a1.setOther (by show b ≠ c; omega) _, a2.setOther (by show b + 1 ≠ c; omega) _, own_setNe a3 (fun q hq => by simp [Value.ownBlock] at hq; omega), fun q hq => ⟨?_, (a4 q hq).2⟩, a5, by simpa using a6⟩
  obtain ⟨h1, h2, h3⟩ := (a4 q hq).1
  exact ⟨own_setNe h1 fun x hx => hl q hq x (.inl hx), own_setNe h2 fun x hx => hl q hq x (.inr (.inr hx)), own_setNe h3 fun x hx => hl q hq x (.inr (.inl hx))⟩
theorem CS.blk {W : World} {b : Nat} {N : Nt} {G uc : Nat} {cf : Nat → Ly} {i : Nat} (k : CS W b N G uc cf i) : ∀ j, j < i → ∀ q, (obW (cf j) = some q ∨ obB (cf j) = some q ∨ (Value.slice (cf j).an (cf j).mn (cf j).cn).ownBlock = some q) → q < W.heap.size := by
  intro j hj q h
  obtain ⟨h1, h2, h3⟩ := (k.2.2.2.1 j hj).1
  rcases h with h | h | h
  · exact (h1.lt q h).2
  · exact (h3.lt q h).2
  · exact (h2.lt q h).2
/-- The copied layer is stored. -/
theorem CS.store {W : World} {b z : Nat} {N : Nt} {G uc : Nat} {cf : Nat → Ly} {i : Nat} {L' : Ly} (k : CS W b N G uc cf i) (hi : i < N.ml) (hz : ∀ j, j < i → ∀ q, (obW (cf j) = some q ∨ obB (cf j) = some q ∨ (Value.slice (cf j).an (cf j).mn (cf j).cn).ownBlock = some q) → q < z) (lo : Lo W (b + 2) L') (hw : ∀ q, obW L' = some q → z ≤ q) (hb : ∀ q, obB L' = some q → z ≤ q) (hn : ∀ q, obN L' = some q → z ≤ q) (hc : ∃ a1 c1 a2 c2 a3 c3, L' = cpy (N.lf i) a1 c1 a2 c2 a3 c3) : CS (W.setCells G (i * 15) (lyC L')) b N G uc (sn cf i L') (i + 1) ∧ W.grownBy (W.setCells G (i * 15) (lyC L')) (some G) ∧ b + 2 ≤ G := by
  obtain ⟨a1, a2, a3, a4, a5, a6⟩ := k
  obtain ⟨o1, o2⟩ := own_setCells (lyC L') (i * 15) W _ a3
  have hG : b + 2 ≤ G := (a3.lt G rfl).1
  rw [ls_put hi, mx_snoc] at o1
  refine ⟨⟨World.rowIs.of_block a1 (o2.block b (by omega) (by simp; omega)), World.rowIs.of_block a2 (o2.block (b + 1) (by omega) (by simp; omega)), o1, fun j hj => ?_, ?_, Nat.le_trans a6 o2.size⟩, o2, hG⟩
  · unfold sn
    by_cases h : j = i
    · subst h
      rw [if_pos rfl]
      exact ⟨lo.grow a3 (by decide) (by decide) (by decide) o2, hc⟩
    · rw [if_neg h]
      obtain ⟨h1, h2⟩ := a4 j (by omega)
      exact ⟨h1.grow a3 (by decide) (by decide) (by decide) o2, h2⟩
  · refine a5.snoc fun j hj => ⟨fun q e1 e2 => ?_, fun q e1 e2 => ?_, fun q e1 e2 => ?_⟩
    · have := hz j hj q (.inl e2); have := hw q e1; omega
    · have := hz j hj q (.inr (.inl e2)); have := hb q e1; omega
    · have := hz j hj q (.inr (.inr e2)); have := hn q e1; omega
theorem ls_cell {W : World} {base G uc M i c : Nat} {lf : Nat → Ly} (h : W.ownsRow base 45 15 (.slice (some ⟨G, 0, none⟩) M uc) M (lyLs lf M)) (hi : i < M) (hc : c < 15) : W.cell? ⟨G, i * 15 + c, none⟩ = (lyC (lf i))[c]? := by
  rw [h.cellAt _ (by omega)]
  exact rl_get (s := 15) (fun _ => rfl) M hi hc
theorem ls_there {W : World} {base G uc M i : Nat} {lf : Nat → Ly} (h : W.ownsRow base 45 15 (.slice (some ⟨G, 0, none⟩) M uc) M (lyLs lf M)) (hi : i < M) : W.there G (i * 15) 15 := fun c hc => ⟨by rw [ls_cell h hi hc, List.getElem?_eq_getElem (by rw [lyC_len]; exact hc)]; rfl, h.frozenAt _⟩
theorem info_ly15 : (Try.prog.info? 45).map (·.size) = some 15 := by kernel_rfl
theorem lyC_one (L : Ly) : (lyC L).toArray.all (·.oneCell') = true := by simp [lyC, Value.oneCell']
theorem netF_allN {W : World} {b : Nat} {nm : ByteArray} {H V C : Int} {u : Value} {F : Nat → Value} (h : W.rowIs b 28 5 F) : (((((W.setCell ⟨b, 0, none⟩ (.string nm)).setCell ⟨b, 1, none⟩ (.int .i64 H)).setCell ⟨b, 2, none⟩ (.int .i64 V)).setCell ⟨b, 3, none⟩ (.int .i64 C)).setCell ⟨b, 4, none⟩ u).rowIs b 28 5 (netF nm H V C u) := by
  refine (((((h.set 0 (.string nm)).set 1 (.int .i64 H)).set 2 (.int .i64 V)).set 3 (.int .i64 C)).set 4 u).congr fun q hq => ?_
  rcases (show q = 0 ∨ q = 1 ∨ q = 2 ∨ q = 3 ∨ q = 4 by omega) with rfl | rfl | rfl | rfl | rfl <;> rfl
/-- What a copy is. -/
def Cn (W : World) (base : Nat) (N : Nt) (ua : Option Addr) (uc : Nat) (cf : Nat → Ly) : Prop := W.ownsRow base 45 15 (.slice ua N.ml uc) N.ml (lyLs cf N.ml) ∧ (∀ j, j < N.ml → Lo W base (cf j) ∧ ∃ a1 c1 a2 c2 a3 c3, cf j = cpy (N.lf j) a1 c1 a2 c2 a3 c3) ∧ Dis cf N.ml
set_option maxHeartbeats 6400000 in
set_option maxRecDepth 100000 in
theorem nclone_pos (N : Nt) (w : World) (hN : NtW w N) (hpos : 1 ≤ N.ml) (hm : N.ml * 168 ≤ 140737488355328) (hL : ∀ j, j < N.ml → (N.lf j).mw ≤ 140737488355328 ∧ (N.lf j).mn * 64 ≤ 140737488355328 ∧ (N.lf j).mb * 8 ≤ 140737488355328) :
    Calls Try.prog 12 #[ntv N] w fun e w' => ∃ ua uc cf, e = .returned (ntv ⟨N.nm, N.h, N.v, N.c, ua, N.ml, uc, cf⟩) ∧ Cn w' w.heap.size N ua uc cf ∧ Below w.heap.size w w' := by
  have HL := hid1 hL
  have HN := hid1 hN
  clear hL hN
  obtain ⟨b, hb0⟩ : ∃ b, w.heap.size = b := ⟨_, rfl⟩
  have HB0 := hid1 hb0
  obtain ⟨M, hM⟩ : ∃ M, N.ml = M := ⟨_, rfl⟩
  have HM := hid1 hM
  have CL := hid1 (fun W (hW : Below w.heap.size w W) => cloneLs N W (HN.out.keep hW) hm)
  rw [hM] at CL hpos hm ⊢
  have hMb : M ≤ 1000000000000 := by omega
  clear hm
  go_enter Try.func12, Try.ntmps12
  go_upto_region 1 with fail
  refine gen_world (fun X => Below w.heap.size w X ∧ X.rowIs b 28 5 (netF N.nm N.h N.v N.c (.slice N.al M N.cl)) ∧ X.rowIs (b + 1) 28 5 (netF ⟨#[]⟩ 0 0 0 (.slice none 0 0)) ∧ b + 2 ≤ X.heap.size) ?gw ?_
  case gw =>
    subst hb0
    exact ⟨by repeat (first | (with_reducible exact Below.refl _ _) | (with_reducible refine bl_alloc ?_ _) | (with_reducible refine Below.drew ?_)), (net_newF w N.nm N.h N.v N.c (.slice N.al M N.cl) _).alloc _, by
      have := net_newF (w.alloc (.cells #[.string N.nm, .int .i64 N.h, .int .i64 N.v, .int .i64 N.c, .slice N.al M N.cl] 28)) ⟨#[]⟩ 0 0 0 (.slice none 0 0) 28
      simpa using this, by simp⟩
  rintro X ⟨BX, R0, R1, zX⟩
  have HR0 := hid1 R0
  have HR1 := hid1 R1
  have n4 : X.cell? ⟨b, 4, none⟩ = some (.slice N.al M N.cl) := R0.cell (i := 4) (by decide)
  clear R0 R1
  go_wp2_with fail
  refine (CL.out _ BX).mono ?_
  rintro e z ⟨ua, uc, rfl, own, hb⟩
  obtain ⟨G, rfl, -, -, -, -⟩ := own_cellsS own hpos
  have HC0 : Hid (CS (z.setCell ⟨b, 4, none⟩ (.slice (some ⟨G, 0, none⟩) M uc)) b N G uc N.lf 0) := hid1 (by
    have hM' := HM.out
    subst hM'
    refine ⟨?_, (World.rowIs.of_block HR1.out (hb.block _ HR1.out.lt)).setOther (by show b + 1 ≠ b; omega) _, ?_, fun j hj => absurd hj (Nat.not_lt_zero j), Dis.zero _, ?_⟩
    · refine ((World.rowIs.of_block HR0.out (hb.block _ HR0.out.lt)).set 4 _).congr fun i hi => ?_
      rcases (show i = 0 ∨ i = 1 ∨ i = 2 ∨ i = 3 ∨ i = 4 by omega) with rfl | rfl | rfl | rfl | rfl <;> rfl
    · rw [mx_zero]
      exact own_setD (own.mono zX) (by omega)
    · have := hb.size; simp; omega)
  have BZ : Below w.heap.size w (z.setCell ⟨b, 4, none⟩ (.slice (some ⟨G, 0, none⟩) M uc)) := bl_set (bl_step BX hb) (by omega) _
  have fz := (World.rowIs.of_block HR0.out (hb.block _ HR0.out.lt)).frozen 4
  have m4 : z.cell? ⟨b, 4, none⟩ = some (.slice N.al M N.cl) := (World.rowIs.of_block HR0.out (hb.block _ HR0.out.lt)).cell (i := 4) (by decide)
  go_upto_region 2 with fail
  refine gen_world (fun X => CS X b N G uc N.lf 0 ∧ Below w.heap.size w X) ⟨HC0.out, BZ⟩ ?_
  clear HC0 BZ fz m4 own hb n4 HR0 HR1 BX zX
  rintro Y ⟨CY, BY⟩
  have HCY := hid1 CY
  have n4 : Y.cell? ⟨b, 4, none⟩ = some (.slice (some ⟨G, 0, none⟩) N.ml uc) := CY.1.cell (i := 4) (by decide)
  rw [hM] at n4
  clear CY
  go_wp2_with fail
  go_loopw [12] (fun iv wr => ∃ (i : Nat) (cf : Nat → Ly), i ≤ M ∧ iv = .int .i64 i ∧ Below w.heap.size w wr ∧ Hid (CS wr b N G uc cf i)) (fun iv _ => M - (intOf iv).toNat)
  case atStart => exact ⟨0, N.lf, Nat.zero_le _, rfl, BY, HCY⟩
  case round =>
    clear BY HCY n4 Y
    obtain ⟨i, cf, hi, rfl, BX, HCS⟩ := hrel
    have ii0 : (0 : Int) ≤ (i : Int) := by omega
    by_cases hlt : i < M
    · have ii : (i : Int) < (M : Int) := by omega
      have wI : IntKind.i64.wrap ((i : Int) + 1) = (i : Int) + 1 := by rw [IntKind.wrap_i64]; omega
      have HLC : Hid (∀ c, c < 15 → wr.cell? ⟨G, i * 15 + c, none⟩ = (lyC (N.lf i))[c]?) := hid1 (fun c hc => by
        have := ls_cell HCS.out.2.2.1 (i := i) (by rw [HM.out]; exact hlt) hc
        rwa [mx_at] at this)
      have HLW := hid1 ((HN.out.keep BX).1 i (by rw [HM.out]; exact hlt))
      have HLL : Hid (Lst wr (N.lf i)) := hid1 (by obtain ⟨_, _, _, _, h⟩ := HLW.out; exact h)
      have HLB := hid1 (HL.out i (by rw [HM.out]; exact hlt))
      have HLI : Hid (N.lf i = N.lf i) := hid1 rfl
      clear HLW
      obtain ⟨L, hL⟩ : ∃ L, N.lf i = L := ⟨_, rfl⟩
      rw [hL] at HLC HLL HLB
      have HLE := hid1 hL
      clear hL HLI
      have c0 : wr.cell? ⟨G, i * 15, none⟩ = some (.int .i64 L.kd) := HLC.out 0 (by decide)
      have c1 : wr.cell? ⟨G, i * 15 + 1, none⟩ = some (.int .i64 L.wt) := HLC.out 1 (by decide)
      have c2 : wr.cell? ⟨G, i * 15 + 2, none⟩ = some (.int .i64 L.k) := HLC.out 2 (by decide)
      have c3 : wr.cell? ⟨G, i * 15 + 3, none⟩ = some (.int .i64 L.r) := HLC.out 3 (by decide)
      have c4 : wr.cell? ⟨G, i * 15 + 4, none⟩ = some (.int .i64 L.s) := HLC.out 4 (by decide)
      have c5 : wr.cell? ⟨G, i * 15 + 5, none⟩ = some (.int .i64 L.sy) := HLC.out 5 (by decide)
      have c6 : wr.cell? ⟨G, i * 15 + 6, none⟩ = some (.int .i64 L.sx) := HLC.out 6 (by decide)
      have c7 : wr.cell? ⟨G, i * 15 + 7, none⟩ = some (.int .i64 L.t) := HLC.out 7 (by decide)
      have c8 : wr.cell? ⟨G, i * 15 + 8, none⟩ = some (.int .i64 L.l) := HLC.out 8 (by decide)
      have c9 : wr.cell? ⟨G, i * 15 + 9, none⟩ = some (.int .i64 L.b) := HLC.out 9 (by decide)
      have c10 : wr.cell? ⟨G, i * 15 + 10, none⟩ = some (.int .i64 L.q) := HLC.out 10 (by decide)
      have c11 : wr.cell? ⟨G, i * 15 + 11, none⟩ = some (.int .i64 L.bd) := HLC.out 11 (by decide)
      have c12 : wr.cell? ⟨G, i * 15 + 12, none⟩ = some (.slice L.aw L.mw L.cw) := HLC.out 12 (by decide)
      have c13 : wr.cell? ⟨G, i * 15 + 13, none⟩ = some (.slice L.an L.mn L.cn) := HLC.out 13 (by decide)
      have c14 : wr.cell? ⟨G, i * 15 + 14, none⟩ = some (.slice L.ab L.mb L.cb) := HLC.out 14 (by decide)
      obtain ⟨bl, hbl⟩ : ∃ x, wr.heap.size = x := ⟨_, rfl⟩
      go_upto_region 5 with fail
      refine gen_world (fun X => X.rowIs bl 45 15 (lyf L) ∧ Below wr.heap.size wr X ∧ bl < X.heap.size) ⟨by rw [← hbl]; exact lyf_new wr L _, bl_alloc (Below.refl _ _) _, by simp [hbl]⟩ ?_
      clear c0 c1 c2 c3 c4 c5 c6 c7 c8 c9 c10 c11 c12 c13 c14 HLC
      rintro Z ⟨RL, BZ, zZ⟩
      have HCZ := hid1 (HCS.out.keep BZ)
      have HRL := hid1 RL
      have HHE : Hid (HeC Z bl L) := hid1 ⟨RL.cell (i := 12) (by decide), RL.cell (i := 13) (by decide), RL.cell (i := 14) (by decide), RL.frozen 12, RL.frozen 13, RL.frozen 14⟩
      clear RL
      refine step_clone2 _ _ _ _ _ _ _ _ _ _ _ _ _ _ _ _ _ _ _ _ _ _ _ _ _ _ _ _ _ _ _ _ _ _ _ bl L Z _ (hid1 (HLL.out.keep BZ)) (hid1 HLB.out.1) (hid1 HLB.out.2.1) (hid1 HLB.out.2.2) HHE (hid1 ?_)
      intro X2 v17 v18 v19 v20 v21 v22 v23 v24 v25 v26 v27 v28 a1 d1 a2 d2 a3 d3 B2 CO
      have HGN : G ≠ bl := by have := (HCS.out.2.2.1.lt G rfl).2; omega
      have HY : Hid (∃ L', (((X2.setCell ⟨bl, 12, none⟩ (.slice a1 L.mw d1)).setCell ⟨bl, 13, none⟩ (.slice a2 L.mn d2)).setCell ⟨bl, 14, none⟩ (.slice a3 L.mb d3)).rowIs bl 45 15 (lyf L') ∧ L' = cpy L a1 d1 a2 d2 a3 d3 ∧ Lo (((X2.setCell ⟨bl, 12, none⟩ (.slice a1 L.mw d1)).setCell ⟨bl, 13, none⟩ (.slice a2 L.mn d2)).setCell ⟨bl, 14, none⟩ (.slice a3 L.mb d3)) (bl + 1) L' ∧ CS (((X2.setCell ⟨bl, 12, none⟩ (.slice a1 L.mw d1)).setCell ⟨bl, 13, none⟩ (.slice a2 L.mn d2)).setCell ⟨bl, 14, none⟩ (.slice a3 L.mb d3)) b N G uc cf i ∧ Below w.heap.size w (((X2.setCell ⟨bl, 12, none⟩ (.slice a1 L.mw d1)).setCell ⟨bl, 13, none⟩ (.slice a2 L.mn d2)).setCell ⟨bl, 14, none⟩ (.slice a3 L.mb d3))) := hid1 (by
        have R2 := World.rowIs.of_block HRL.out (B2.block bl zZ)
        have R3 := lyf_set R2 (cpy L a1 d1 L.an L.cn L.ab L.cb) 12 (.slice a1 L.mw d1) ⟨rfl, rfl, rfl, rfl, rfl, rfl, rfl, rfl, rfl, rfl, rfl, rfl, rfl, rfl, rfl⟩
        have R4 := lyf_set R3 (cpy L a1 d1 a2 d2 L.ab L.cb) 13 (.slice a2 L.mn d2) ⟨rfl, rfl, rfl, rfl, rfl, rfl, rfl, rfl, rfl, rfl, rfl, rfl, rfl, rfl, rfl⟩
        have R5 := lyf_set R4 (cpy L a1 d1 a2 d2 a3 d3) 14 (.slice a3 L.mb d3) ⟨rfl, rfl, rfl, rfl, rfl, rfl, rfl, rfl, rfl, rfl, rfl, rfl, rfl, rfl, rfl⟩
        have LC := (CO.lo).mono (show bl + 1 ≤ Z.heap.size by omega)
        have CB := HCS.out.blk
        have CX := HCZ.out.keep B2
        have hne : ∀ j, j < i → ∀ q, (obW (cf j) = some q ∨ obB (cf j) = some q ∨ (Value.slice (cf j).an (cf j).mn (cf j).cn).ownBlock = some q) → q ≠ bl := fun j hj q h => by have := CB j hj q h; omega
        have hb1 : b + 1 < bl := by have := HCS.out.2.2.2.2.2; omega
        refine ⟨_, R5, rfl, ((LC.set (by omega)).set (by omega)).set (by omega), ((CX.set hb1 HGN hne).set hb1 HGN hne).set hb1 HGN hne, ?_⟩
        have hw : w.heap.size ≤ bl := by have := BX.size; omega
        exact bl_set (bl_set (bl_set (bl_step (bl_step BX BZ) B2) hw _) hw _) hw _)
      clear CO B2 HCZ HRL HHE BZ zZ
      go_upto_region 6 with fail
      refine gen_world (fun Y => ∃ L', Y.rowIs bl 45 15 (lyf L') ∧ L' = cpy L a1 d1 a2 d2 a3 d3 ∧ Lo Y (bl + 1) L' ∧ CS Y b N G uc cf i ∧ Below w.heap.size w Y) HY.out ?_
      clear HY
      rintro Y ⟨L', RL, eL, LO, CY, BY⟩
      obtain ⟨l0, l1, l2, l3, l4, l5, l6, l7, l8, l9, l10, l11, l12, l13, l14⟩ := lyf_cells RL
      have HLO := hid1 LO
      have HCY := hid1 CY
      have n4 : Y.cell? ⟨b, 4, none⟩ = some (.slice (some ⟨G, 0, none⟩) N.ml uc) := CY.1.cell (i := 4) (by decide)
      rw [hM] at n4
      have HTH : Hid (Y.there G (i * 15) 15) := hid1 (ls_there CY.2.2.1 (by rw [HM.out]; exact hlt))
      have HEL := hid1 eL
      have HST : Hid (CS (Y.setCells G (i * 15) (lyC L')) b N G uc (sn cf i L') (i + 1) ∧ Below w.heap.size w (Y.setCells G (i * 15) (lyC L'))) := hid1 (by
        have hb2 : b + 2 ≤ bl + 1 := by have := HCS.out.2.2.2.2.2; omega
        obtain ⟨k1, k2, k3⟩ := CY.store (z := bl) (L' := L') (by rw [HM.out]; exact hlt) (fun j hj q h => by have := HCS.out.blk j hj q h; omega) (LO.mono hb2) (fun q h => by have := (LO.1.lt q h).1; omega) (fun q h => by have := (LO.2.2.lt q h).1; omega) (fun q h => by have := (LO.2.1.lt q h).1; omega) ⟨a1, d1, a2, d2, a3, d3, by rw [HLE.out]; exact eL⟩
        exact ⟨k1, gr_bel k2 BY (fun q hq => by cases hq; have := HB0.out; omega)⟩)
      clear LO CY eL RL BX HCS HLL HLB hbl
      go_wp2_with (refine wpList_store_mid rfl 45 _ _ rfl G (i * 15) (lyC L').toArray (by go_simp) (by go_simp; rfl) HTH.out info_ly15 (lyC_one L') ?_; have hst := HST.out; clear HTH l0 l1 l2 l3 l4 l5 l6 l7 l8 l9 l10 l11 l12 l13 l14 n4)
      exact ⟨⟨i + 1, sn cf i L', by omega, by go_num, hst.2, hid1 hst.1⟩, by simp [intOf]; omega⟩
    · have hiM : i = M := by omega
      subst hiM
      clear hlt
      have CC := HCS.out
      have n0 : wr.cell? ⟨b, 0, none⟩ = some (.string N.nm) := CC.1.cell (i := 0) (by decide)
      have n1 : wr.cell? ⟨b, 1, none⟩ = some (.int .i64 N.h) := CC.1.cell (i := 1) (by decide)
      have n2 : wr.cell? ⟨b, 2, none⟩ = some (.int .i64 N.v) := CC.1.cell (i := 2) (by decide)
      have n3 : wr.cell? ⟨b, 3, none⟩ = some (.int .i64 N.c) := CC.1.cell (i := 3) (by decide)
      have n4 : wr.cell? ⟨b, 4, none⟩ = some (.slice (some ⟨G, 0, none⟩) N.ml uc) := CC.1.cell (i := 4) (by decide)
      have r0 : wr.cell? ⟨b + 1, 0, none⟩ = some (.string ⟨#[]⟩) := CC.2.1.cell (i := 0) (by decide)
      have r1 : wr.cell? ⟨b + 1, 1, none⟩ = some (.int .i64 0) := CC.2.1.cell (i := 1) (by decide)
      have r2 : wr.cell? ⟨b + 1, 2, none⟩ = some (.int .i64 0) := CC.2.1.cell (i := 2) (by decide)
      have r3 : wr.cell? ⟨b + 1, 3, none⟩ = some (.int .i64 0) := CC.2.1.cell (i := 3) (by decide)
      have r4 : wr.cell? ⟨b + 1, 4, none⟩ = some (.slice none 0 0) := CC.2.1.cell (i := 4) (by decide)
      have f0 := CC.2.1.frozen 0
      have f1 := CC.2.1.frozen 1
      have f2 := CC.2.1.frozen 2
      have f3 := CC.2.1.frozen 3
      have f4 := CC.2.1.frozen 4
      rw [hM] at n4
      clear CC
      go_wp2_with fail
      refine bodyPost_ret (results_cell_row Try.results12 _ _ (b + 1) 28 _ (0, 0) _ (by go_simp) (row5 (netF_allN HCS.out.2.1)) Try.underlying28 rfl (by kernel_rfl)) rfl ?_
      have hb1 : w.heap.size ≤ b + 1 := by have := HB0.out; omega
      have hb2 : w.heap.size ≤ b + 2 := by omega
      refine ⟨some ⟨G, 0, none⟩, uc, cf, rfl, ⟨?_, fun j hj => ?_, ?_⟩, bl_set (bl_set (bl_set (bl_set (bl_set BX hb1 _) hb1 _) hb1 _) hb1 _) hb1 _⟩
      · have h3 := HCS.out.2.2.1
        rw [HM.out, mx_full] at h3
        rw [HM.out]
        exact (own_setD (own_setD (own_setD (own_setD (own_setD h3 (by omega)) (by omega)) (by omega)) (by omega)) (by omega)).mono hb2
      · rw [HM.out] at hj
        obtain ⟨h1, h2⟩ := HCS.out.2.2.2.1 j hj
        exact ⟨(((((h1.set (by omega)).set (by omega)).set (by omega)).set (by omega)).set (by omega)).mono hb2, h2⟩
      · rw [HM.out]; exact HCS.out.2.2.2.2.1
end Go.Proofs.Ytkodihmjjiadnaa.Nn
/- BOUND HOLDS: no logit leaves its reach; what the reaches of a network that may be are. -/
namespace Go.Proofs.Ytkodihmjjiadnaa.Nn
open Go.RowKit

theorem mk_ok {H V C : Int} {M : Nat} {ua : Option Addr} {uc : Nat} {lf : Nat → Ly} (bH : 1 ≤ H ∧ H ≤ 5) (bV : 1 ≤ V ∧ V ≤ 5) (bC : 1 ≤ C ∧ C ≤ 4) (bM : 1 ≤ M ∧ M ≤ 4) (h : Mk H V C M M lf) : chE (mkN H V C M ua uc lf) = 0 ∧ chA (mkN H V C M ua uc lf) = 0 := by
  refine ch_ok ?_ fun j hj => ?_
  · show (if nmB nmX = false then (50 : Int) else if chk H V C ≠ 0 then chk H V C else if 1 ≤ M ∧ M ≤ 64 then 0 else 51) = 0
    rw [nmX_ok, if_neg (by decide), if_neg (by rw [chk_small (by omega) (by omega) (by omega)]; decide), if_pos (by omega)]
  · have hj : j < M := hj
    have := (h.1 j hj).1
    show faE (lf j) (sp (mkN H V C M ua uc lf) j) = 0
    rw [sp_mk H V C M ua none uc 0 lf lf j fun _ _ => rfl]
    exact this
theorem sm_in {f x : Nat → Int} {lo hi : Int} : ∀ {m : Nat}, (∀ j, j < m → -1 ≤ f j ∧ f j ≤ 1) → (∀ j, j < m → lo ≤ x j ∧ x j ≤ hi) → (cnW f 1 m : Nat) * lo - (cnW f (-1) m : Nat) * hi ≤ smV f x m ∧ smV f x m ≤ (cnW f 1 m : Nat) * hi - (cnW f (-1) m : Nat) * lo
  | 0, _, _ => by simp [cnW, smV]
  | m + 1, h, hx => by
    have ih := sm_in (m := m) (fun j hj => h j (by omega)) (fun j hj => hx j (by omega))
    have h3 := h m (by omega)
    have h4 := hx m (by omega)
    simp only [smV, cnW]
    rcases (show f m = -1 ∨ f m = 0 ∨ f m = 1 by omega) with e | e | e
    · simp [e, Int.add_mul]; omega
    · simp [e]; omega
    · simp [e, Int.add_mul]; omega
theorem re_ok {L : Ly} {S : Sp} (h : faE L S = 0) (h3 : ¬ L.kd = 3) : 0 ≤ lef L S ∧ ∀ j, j < L.mb → bok (lef L S) (L.bs j) := by
  unfold faE at h
  by_cases h1 : L.kd = 1
  · rw [if_pos h1] at h
    have e9 : reE L S = 0 := frF_z h 9 (by decide)
    exact zero_else (by decide) e9
  · rw [if_neg h1] at h
    by_cases h2 : L.kd = 2
    · rw [if_pos h2] at h
      have e6 : reE L S = 0 := frF_z h 6 (by decide)
      exact zero_else (by decide) e6
    · rw [if_neg h2, if_neg h3] at h; cases h
/-- What the reaches of a network that may be are. -/
theorem reach_ok (N : Nt) (hz : chE N = 0) {i : Nat} (hi : i < N.ml) (k : Nat) : yLo (N.lf i) (fanN N i) i k ≤ yHi (N.lf i) (fanN N i) i k ∧ -2147483647 ≤ yLo (N.lf i) (fanN N i) i k ∧ yHi (N.lf i) (fanN N i) i k ≤ 2147483647 ∧ ((N.lf i).kd = 3 → yLo (N.lf i) (fanN N i) i k = -1 ∧ yHi (N.lf i) (fanN N i) i k = 1) := by
  obtain ⟨hw0, hf⟩ := fl_all hz
  have h0 := hf i hi
  have hs := sp_all hz i (by omega)
  unfold yLo yHi
  by_cases h3 : (N.lf i).kd = 3
  · rw [if_pos h3, if_pos h3]
    exact ⟨by decide, by decide, by decide, fun _ => ⟨rfl, rfl⟩⟩
  · rw [if_neg h3, if_neg h3]
    obtain ⟨-, e1, K, F, eK, eF, k1, k2, hw, f1, hm, hmb, hbs⟩ := lay_w hs h0 h3
    have e3 : fanN N i = F := by unfold fanN; rw [eF]; rfl
    rw [e3]
    obtain ⟨r1, r2⟩ := re_ok h0 h3
    have hfs := (la_sp N i).2
    have hc := cnW_two (fun j => (N.lf i).ws (k * F + j)) F
    have hb : -lef (N.lf i) (sp N i) ≤ bsO (N.lf i) k ∧ bsO (N.lf i) k ≤ lef (N.lf i) (sp N i) := by
      unfold bsO
      by_cases hk : k < (N.lf i).mb
      · rw [if_pos hk]; have := r2 k hk; unfold bok at this; exact this
      · rw [if_neg hk]; omega
    unfold wLo wHi inL inH
    unfold lef at r1 hb
    rw [eF] at r1 hb
    generalize cnW (fun j => (N.lf i).ws (k * F + j)) 1 F = A at *
    generalize cnW (fun j => (N.lf i).ws (k * F + j)) (-1) F = B at *
    by_cases h00 : i = 0
    · rw [if_pos h00, if_pos h00]
      have hfs' : (sp N i).fs = true := by rw [hfs]; simp [h00]
      rw [hfs', if_pos rfl] at r1 hb
      refine ⟨by omega, by omega, by omega, fun h => absurd h h3⟩
    · rw [if_neg h00, if_neg h00]
      have hfs' : (sp N i).fs = false := by rw [hfs]; simp [h00]
      rw [hfs', if_neg (by decide)] at r1 hb
      refine ⟨by omega, by omega, by omega, fun h => absurd h h3⟩
/-- No logit leaves its reach. -/
theorem logit_in (N : Nt) (x : Nat → Int) (hz : chE N = 0) (hx : ∀ j, j < szN N 0 → -128 ≤ x j ∧ x j ≤ 127) {m : Nat} (hm : N.ml = m + 1) {k : Nat} (hk : k < szN N (m + 1)) : yLo (N.lf m) (fanN N m) m k ≤ valN N x (m + 1) k ∧ valN N x (m + 1) k ≤ yHi (N.lf m) (fanN N m) m k := by
  obtain ⟨l1, l2, l3, l4, l5, l6, l7⟩ := last_ok hz hm
  obtain ⟨hw0, hf⟩ := fl_all hz
  have h0 := hf m (by omega)
  have hs := sp_all hz m (by omega)
  have h3 : ¬ (N.lf m).kd = 3 := by omega
  have hin := val_bd N x hz hx m (by omega)
  rw [l7] at hin
  obtain ⟨-, e1, K, F, eK, eF, k1, k2, hw, f1, hmm, hmb, hbs⟩ := lay_w hs h0 h3
  have e3 : fanN N m = F := by unfold fanN; rw [eF]; rfl
  have hkK : k < K := by rw [l4, eK] at hk; simpa using hk
  have hkm2 : k * F + F ≤ K * F := by have := Nat.mul_le_mul_right F (show k + 1 ≤ K by omega); rw [Nat.succ_mul] at this; exact this
  have hval : valN N x (m + 1) k = smV (fun j => (N.lf m).ws (k * F + j)) (valN N x m) F + (N.lf m).bs k := by
    show opN _ _ _ _ _ _ _ _ = _
    unfold opN
    rw [if_pos l1, e3]
    unfold ouV beV
    rw [if_pos (by omega)]
  rw [e3] at hin ⊢
  have hsm := sm_in (f := fun j => (N.lf m).ws (k * F + j)) (x := valN N x m) (lo := inL m) (hi := inH m) (m := F) (fun j hj => (lay_ws h0 h3).1 _ (by omega)) hin
  unfold yLo yHi wLo wHi bsO
  rw [if_neg h3, if_neg h3, if_pos (by omega), hval]
  omega
end Go.Proofs.Ytkodihmjjiadnaa.Nn
/- NETMADE: what comes behind a layer without a fault; two networks that are not the same. -/
namespace Go.Proofs.Ytkodihmjjiadnaa.Nn
open Go.RowKit

theorem af_any {S : Sp} {L : Ly} (h0 : faE L S = 0) :
    (L.kd = 2 ∨ (WOk L.r L.s L.sy L.sx L.t L.l L.b L.q ∧ L.r ≤ S.h + L.t + L.b ∧ L.s ≤ S.v + L.l + L.q)) ∧ oH L S.h S.v S.c = afH L S.h ∧ oV L S.h S.v S.c = afV L S.v ∧ oC L S.h S.v S.c = (if L.kd = 3 then S.c else L.k) := by
  by_cases h2 : L.kd = 2
  · have e1 : oH L S.h S.v S.c = 1 := by unfold oH; rw [if_pos h2]
    have e2 : oV L S.h S.v S.c = 1 := by unfold oV; rw [if_pos h2]
    have e3 : oC L S.h S.v S.c = L.k := by unfold oC; rw [if_pos h2]
    have e4 : afH L S.h = 1 := by unfold afH; rw [if_pos h2]
    have e5 : afV L S.v = 1 := by unfold afV; rw [if_pos h2]
    rw [e1, e2, e3, e4, e5, if_neg (by omega)]
    exact ⟨.inl h2, rfl, rfl, rfl⟩
  · obtain ⟨qo, q1, -⟩ := win_ok h0 h2
    have f1 : oH L S.h S.v S.c = stN S.h L.t L.b L.r L.sy := by unfold oH; rw [if_neg h2, if_pos qo]
    have f2 : oV L S.h S.v S.c = stN S.v L.l L.q L.s L.sx := by unfold oV; rw [if_neg h2, if_pos qo]
    have f3 : oC L S.h S.v S.c = (if L.kd = 3 then S.c else L.k) := by unfold oC; rw [if_neg h2, if_pos qo]
    generalize (if L.kd = 3 then S.c else L.k) = kk at q1 f3 ⊢
    unfold slE at q1
    split at q1
    · contradiction
    · split at q1
      · omega
      · split at q1
        · omega
        · rename_i hW
          have hW : WOk L.r L.s L.sy L.sx L.t L.l L.b L.q := Classical.not_not.1 hW
          have st0 : ∀ n bf af wi st : Int, 1 ≤ st → 0 ≤ stN n bf af wi st := fun n bf af wi st h => by
            unfold stN
            split
            · exact Int.le_refl _
            · have := Int.ediv_nonneg (show 0 ≤ bf + n + af - wi by omega) (show 0 ≤ st by omega); omega
          split at q1
          · omega
          · rename_i hm
            have s1 := st0 S.h L.t L.b L.r L.sy hW.1.2.1.1
            have s2 := st0 S.v L.l L.q L.s L.sx hW.2.2.1.1
            have p1 : ¬ stN S.h L.t L.b L.r L.sy = 0 := fun h => hm (by unfold mn2; rw [h]; split <;> omega)
            have p2 : ¬ stN S.v L.l L.q L.s L.sx = 0 := fun h => hm (by unfold mn2; rw [h]; split <;> omega)
            have r1 : ¬ L.t + S.h + L.b < L.r := fun h => p1 (by unfold stN; rw [if_pos h])
            have r2 : ¬ L.l + S.v + L.q < L.s := fun h => p2 (by unfold stN; rw [if_pos h])
            have e6 : afH L S.h = stN S.h L.t L.b L.r L.sy := by unfold afH stN; rw [if_neg h2, if_neg r1, show S.h + L.t + L.b - L.r = L.t + S.h + L.b - L.r by omega]
            have e7 : afV L S.v = stN S.v L.l L.q L.s L.sx := by unfold afV stN; rw [if_neg h2, if_neg r2, show S.v + L.l + L.q - L.s = L.l + S.v + L.q - L.s by omega]
            rw [f1, f2, f3, e6, e7]
            exact ⟨.inr ⟨hW, by omega, by omega⟩, rfl, rfl, rfl⟩
/-- The shape behind each layer of a network without a fault. -/
theorem sp_af {H V C : Int} {M i : Nat} {ua : Option Addr} {uc : Nat} {lf : Nat → Ly} (h : Mk H V C M M lf) (hi : i < M) :
    ((lf i).kd = 2 ∨ (WOk (lf i).r (lf i).s (lf i).sy (lf i).sx (lf i).t (lf i).l (lf i).b (lf i).q ∧ (lf i).r ≤ (sp (mkN H V C M ua uc lf) i).h + (lf i).t + (lf i).b ∧ (lf i).s ≤ (sp (mkN H V C M ua uc lf) i).v + (lf i).l + (lf i).q)) ∧ (sp (mkN H V C M ua uc lf) (i + 1)).h = afH (lf i) (sp (mkN H V C M ua uc lf) i).h ∧ (sp (mkN H V C M ua uc lf) (i + 1)).v = afV (lf i) (sp (mkN H V C M ua uc lf) i).v ∧ (sp (mkN H V C M ua uc lf) (i + 1)).c = (if (lf i).kd = 3 then (sp (mkN H V C M ua uc lf) i).c else (lf i).k) := by
  have e := sp_mk H V C M ua none uc 0 lf lf i (fun _ _ => rfl)
  have h0 : faE (lf i) (sp (mkN H V C M none 0 lf) i) = 0 := (h.1 i hi).1
  rw [← e] at h0
  exact af_any h0
end Go.Proofs.Ytkodihmjjiadnaa.Nn
/- NETSPOILT: what one thing that may not be makes of a layer without a fault. -/
namespace Go.Proofs.Ytkodihmjjiadnaa.Nn
open Go.RowKit

theorem fa_kinds {L : Ly} {S : Sp} (h : faE L S = 0) : L.kd = 1 ∨ L.kd = 2 ∨ L.kd = 3 := by
  unfold faE at h
  by_cases h1 : L.kd = 1
  · exact .inl h1
  · by_cases h2 : L.kd = 2
    · exact .inr (.inl h2)
    · by_cases h3 : L.kd = 3
      · exact .inr (.inr h3)
      · rw [if_neg h1, if_neg h2, if_neg h3] at h; omega
theorem fa_C {L : Ly} {S : Sp} (h1 : L.kd = 1) : faE L S = frF 10 (qC L S) := by unfold faE; rw [if_pos h1]
theorem fa_D {L : Ly} {S : Sp} (h2 : L.kd = 2) : faE L S = frF 7 (qD L S) := by unfold faE; rw [if_neg (by omega), if_pos h2]
theorem fa_P {L : Ly} {S : Sp} (h3 : L.kd = 3) : faE L S = frF 6 (qP L S) := by unfold faE; rw [if_neg (by omega), if_neg (by omega), if_pos h3]
/-- The first question that is answered another way. -/
theorem to_C {L L' : Ly} {S : Sp} {k : Nat} {v : Int} (h : faE L S = 0) (h1 : L.kd = 1) (h1' : L'.kd = 1) (hk : k < 10) (hs : ∀ j, j < k → qC L' S j = qC L S j) (hv : qC L' S k = v) (hn : ¬ v = 0) : faE L' S = v := by
  rw [fa_C h1'] 
  rw [fa_C h1] at h
  have hz := frF_z h
  rw [frF_no hk (fun j hj => (hs j hj).trans (hz j (by omega))) (by rw [hv]; exact hn), hv]
theorem to_D {L L' : Ly} {S : Sp} {k : Nat} {v : Int} (h : faE L S = 0) (h2 : L.kd = 2) (h2' : L'.kd = 2) (hk : k < 7) (hs : ∀ j, j < k → qD L' S j = qD L S j) (hv : qD L' S k = v) (hn : ¬ v = 0) : faE L' S = v := by
  rw [fa_D h2']
  rw [fa_D h2] at h
  have hz := frF_z h
  rw [frF_no hk (fun j hj => (hs j hj).trans (hz j (by omega))) (by rw [hv]; exact hn), hv]
theorem to_P {L L' : Ly} {S : Sp} {k : Nat} {v : Int} (h : faE L S = 0) (h3 : L.kd = 3) (h3' : L'.kd = 3) (hk : k < 6) (hs : ∀ j, j < k → qP L' S j = qP L S j) (hv : qP L' S k = v) (hn : ¬ v = 0) : faE L' S = v := by
  rw [fa_P h3']
  rw [fa_P h3] at h
  have hz := frF_z h
  rw [frF_no hk (fun j hj => (hs j hj).trans (hz j (by omega))) (by rw [hv]; exact hn), hv]
theorem sp_0 {L : Ly} {S : Sp} : faE { L with kd := 4 } S = 51 := by unfold faE; simp
theorem sp_1 {L : Ly} {S : Sp} (h : faE L S = 0) : faE { L with k := 4097 } S = if L.kd = 3 then 51 else 30 := by
  rcases fa_kinds h with e | e | e
  · rw [if_neg (by omega)]
    exact to_C (k := 1) h e e (by decide) (fun j hj => by obtain rfl : j = 0 := (by omega); rfl) (by show ouE _ = 30; unfold ouE; rw [if_neg (by show ¬ (1 ≤ (4097 : Int) ∧ (4097 : Int) ≤ 4096); omega)]) (by decide)
  · rw [if_neg (by omega)]
    exact to_D (k := 0) h e e (by decide) (fun j hj => by omega) (by show ouE _ = 30; unfold ouE; rw [if_neg (by show ¬ (1 ≤ (4097 : Int) ∧ (4097 : Int) ≤ 4096); omega)]) (by decide)
  · rw [if_pos e]
    exact to_P (k := 2) h e e (by decide) (fun j hj => by rcases (show j = 0 ∨ j = 1 by omega) with rfl | rfl <;> rfl) (by show owE _ = 51; unfold owE; rw [if_neg (fun q => by have := q.1.1; simp at this)]) (by decide)
theorem sp_2 {L : Ly} {S : Sp} (h : faE L S = 0) : faE { L with sx := 16 } S = if L.kd = 2 then 51 else 56 := by
  have nw : ∀ r s sy t l b q : Int, wiE r s sy 16 t l b q = 56 := fun r s sy t l b q => by
    unfold wiE
    rw [if_neg (fun h => by have := h.2.2.1.2; omega)]
  rcases fa_kinds h with e | e | e
  · rw [if_neg (by omega)]
    exact to_C (k := 2) h e e (by decide) (fun j hj => by rcases (show j = 0 ∨ j = 1 by omega) with rfl | rfl <;> rfl) (nw _ _ _ _ _ _ _) (by decide)
  · rw [if_pos e]
    exact to_D (k := 1) h e e (by decide) (fun j hj => by obtain rfl : j = 0 := (by omega); rfl) (by show nwE _ = 51; unfold nwE; rw [if_neg (fun q => by have := q.1.2.2.2.1; simp at this)]) (by decide)
  · rw [if_neg (by omega)]
    exact to_P (k := 3) h e e (by decide) (fun j hj => by rcases (show j = 0 ∨ j = 1 ∨ j = 2 by omega) with rfl | rfl | rfl <;> rfl) (nw _ _ _ _ _ _ _) (by decide)
theorem sp_3 {L : Ly} {S : Sp} (h : faE L S = 0) : faE { L with bd := 2 } S = if L.kd = 1 then 56 else 51 := by
  rcases fa_kinds h with e | e | e
  · rw [if_pos e]
    exact to_C (k := 3) h e e (by decide) (fun j hj => by rcases (show j = 0 ∨ j = 1 ∨ j = 2 by omega) with rfl | rfl | rfl <;> rfl) (by show boE _ = 56; unfold boE; rw [if_neg (fun q => by rcases q with q | q <;> simp at q)]) (by decide)
  · rw [if_neg (by omega)]
    exact to_D (k := 1) h e e (by decide) (fun j hj => by obtain rfl : j = 0 := (by omega); rfl) (by show nwE _ = 51; unfold nwE; rw [if_neg (fun q => by have := q.2; simp at this)]) (by decide)
  · rw [if_neg (by omega)]
    exact to_P (k := 2) h e e (by decide) (fun j hj => by rcases (show j = 0 ∨ j = 1 by omega) with rfl | rfl <;> rfl) (by show owE _ = 51; unfold owE; rw [if_neg (fun q => by have := q.1.2.2; simp at this)]) (by decide)
theorem sp_4 {L : Ly} {S : Sp} (h : faE L S = 0) : faE { L with wt := 3 } S = if L.kd = 3 then 51 else 52 := by
  have nk : ∀ L' : Ly, L'.wt = 3 → wkE L' = 52 := fun L' e => by unfold wkE; rw [if_neg (by omega)]
  rcases fa_kinds h with e | e | e
  · rw [if_neg (by omega)]
    exact to_C (k := 5) h e e (by decide) (fun j hj => by rcases (show j = 0 ∨ j = 1 ∨ j = 2 ∨ j = 3 ∨ j = 4 by omega) with rfl | rfl | rfl | rfl | rfl <;> rfl) (nk _ rfl) (by decide)
  · rw [if_neg (by omega)]
    exact to_D (k := 2) h e e (by decide) (fun j hj => by rcases (show j = 0 ∨ j = 1 by omega) with rfl | rfl <;> rfl) (nk _ rfl) (by decide)
  · rw [if_pos e]
    exact to_P (k := 2) h e e (by decide) (fun j hj => by rcases (show j = 0 ∨ j = 1 by omega) with rfl | rfl <;> rfl) (by show owE _ = 51; unfold owE; rw [if_neg (fun q => by have := q.1.2.1; simp at this)]) (by decide)
/-- A weight more. -/
abbrev sp5L (L : Ly) (a1 : Option Addr) (c1 : Nat) : Ly := { L with aw := a1, cw := c1, mw := L.mw + 1, ws := fun j => if j = L.mw then 1 else L.ws j }
theorem ws_z {L : Ly} {S : Sp} (h : faE L S = 0) (h3 : ¬ L.kd = 3) : wsE L S = 0 := by
  rcases fa_kinds h with e | e | e
  · rw [fa_C e] at h; exact frF_z h 7 (by decide)
  · rw [fa_D e] at h; exact frF_z h 4 (by decide)
  · omega
theorem sp_5 {L : Ly} {S : Sp} (h : faE L S = 0) (a1 : Option Addr) (c1 : Nat) : faE (sp5L L a1 c1) S = if L.kd = 3 then 51 else 52 := by
  have nw : ¬ L.kd = 3 → wsE (sp5L L a1 c1) S = 52 := fun h3 => by
    have e := (zero_else (by decide) (ws_z h h3)).1
    unfold wsE
    rw [if_neg (fun q => by have q1 : ((L.mw + 1 : Nat) : Int) = wc L S.h S.v S.c := q.1; omega)]
  rcases fa_kinds h with e | e | e
  · rw [if_neg (by omega)]
    exact to_C (k := 7) h e e (by decide) (fun j hj => by rcases (show j = 0 ∨ j = 1 ∨ j = 2 ∨ j = 3 ∨ j = 4 ∨ j = 5 ∨ j = 6 by omega) with rfl | rfl | rfl | rfl | rfl | rfl | rfl <;> rfl) (nw (by omega)) (by decide)
  · rw [if_neg (by omega)]
    exact to_D (k := 4) h e e (by decide) (fun j hj => by rcases (show j = 0 ∨ j = 1 ∨ j = 2 ∨ j = 3 by omega) with rfl | rfl | rfl | rfl <;> rfl) (nw (by omega)) (by decide)
  · rw [if_pos e]
    exact to_P (k := 2) h e e (by decide) (fun j hj => by rcases (show j = 0 ∨ j = 1 by omega) with rfl | rfl <;> rfl) (by show owE _ = 51; unfold owE; rw [if_neg (fun q => by have := q.2.1; simp at this)]) (by decide)
/-- The last weight is 2. -/
abbrev sp6L (L : Ly) : Ly := { L with ws := fun j => if j = L.mw - 1 then 2 else L.ws j }
theorem sp_6 {L : Ly} {S : Sp} (h : faE L S = 0) (h3 : ¬ L.kd = 3) (hm : 1 ≤ L.mw) : faE (sp6L L) S = 52 := by
  have nw : wsE (sp6L L) S = 52 := by
    unfold wsE
    rw [if_neg (fun q => by have q1 := q.2 (L.mw - 1) (by show L.mw - 1 < L.mw; omega); have := q1.1; simp at this)]
  rcases fa_kinds h with e | e | e
  · exact to_C (k := 7) h e e (by decide) (fun j hj => by rcases (show j = 0 ∨ j = 1 ∨ j = 2 ∨ j = 3 ∨ j = 4 ∨ j = 5 ∨ j = 6 by omega) with rfl | rfl | rfl | rfl | rfl | rfl | rfl <;> rfl) nw (by decide)
  · exact to_D (k := 4) h e e (by decide) (fun j hj => by rcases (show j = 0 ∨ j = 1 ∨ j = 2 ∨ j = 3 by omega) with rfl | rfl | rfl | rfl <;> rfl) nw (by decide)
  · omega
/-- The last norm's S is 0. -/
abbrev sp7L (L : Ly) : Ly := { L with ns := fun j c => if j = L.mn - 1 ∧ c = 6 then 0 else L.ns j c }
theorem sp_7 {L : Ly} {S : Sp} (h : faE L S = 0) (h3 : ¬ L.kd = 3) (hla : S.la = false) (hm : 1 ≤ L.mn) : faE (sp7L L) S = 53 := by
  have nn : nmE (sp7L L) = 53 := by
    unfold nmE
    rw [if_neg (fun q => by
      have q1 := q.2 (L.mn - 1) (by show L.mn - 1 < L.mn; omega)
      unfold nno at q1
      simp at q1
      unfold noE at q1
      split at q1
      · simp at q1
      · omega)]
  rcases fa_kinds h with e | e | e
  · exact to_C (k := 8) h e e (by decide) (fun j hj => by rcases (show j = 0 ∨ j = 1 ∨ j = 2 ∨ j = 3 ∨ j = 4 ∨ j = 5 ∨ j = 6 ∨ j = 7 by omega) with rfl | rfl | rfl | rfl | rfl | rfl | rfl | rfl <;> rfl) nn (by decide)
  · exact to_D (k := 5) h e e (by decide) (fun j hj => by rcases (show j = 0 ∨ j = 1 ∨ j = 2 ∨ j = 3 ∨ j = 4 by omega) with rfl | rfl | rfl | rfl | rfl <;> rfl) (by show enE _ _ = 53; unfold enE; rw [if_neg (by rw [hla]; decide)]; exact nn) (by decide)
  · omega
/-- A bias more. -/
abbrev sp8L (L : Ly) (a3 : Option Addr) (c3 : Nat) : Ly := { L with ab := a3, cb := c3, mb := L.mb + 1, bs := fun j => if j = L.mb then 0 else L.bs j }
theorem la_D {L : Ly} {S : Sp} (h : faE L S = 0) (hla : S.la = true) : L.kd = 2 := by
  by_cases h2 : L.kd = 2
  · exact h2
  · have := (win_ok h h2).2.2.2.1
    rw [hla] at this; cases this
theorem sp_8 {L : Ly} {S : Sp} (h : faE L S = 0) (hla : S.la = true) (a3 : Option Addr) (c3 : Nat) : faE (sp8L L a3 c3) S = 54 := by
  have e := la_D h hla
  have h5 : enE L S = 0 := by have h' := h; rw [fa_D e] at h'; exact frF_z h' 5 (by decide)
  unfold enE at h5
  rw [if_pos hla] at h5
  have h5 := (zero_else (by decide) h5).1
  exact to_D (k := 5) h e e (by decide) (fun j hj => by rcases (show j = 0 ∨ j = 1 ∨ j = 2 ∨ j = 3 ∨ j = 4 by omega) with rfl | rfl | rfl | rfl | rfl <;> rfl) (by
    show enE _ _ = 54
    unfold enE
    rw [if_pos hla, if_neg (fun q => by have q1 : ((L.mb + 1 : Nat) : Int) = L.k := q.1; omega)]) (by decide)
/-- The first bias is MaxSum. -/
abbrev sp9L (L : Ly) : Ly := { L with bs := fun j => if j = 0 then 2147483647 else L.bs j }
theorem sp_9 {L : Ly} {S : Sp} (hs : SpOk S) (h : faE L S = 0) (hla : S.la = true) (hm : 1 ≤ L.mb) : faE (sp9L L) S = 55 := by
  have e := la_D h hla
  obtain ⟨-, -, K, F, e1, e2, -, -, -, e6, -⟩ := lay_w hs h (by omega)
  have hl : lef (sp9L L) S < 2147483647 := by
    have hF : (1 : Int) ≤ fan L S.h S.v S.c := by omega
    have : (1 : Int) ≤ fan L S.h S.v S.c * (if S.fs = true then 128 else 1) := by split <;> omega
    show 2147483647 - fan L S.h S.v S.c * (if S.fs = true then 128 else 1) < 2147483647
    omega
  exact to_D (k := 6) h e e (by decide) (fun j hj => by rcases (show j = 0 ∨ j = 1 ∨ j = 2 ∨ j = 3 ∨ j = 4 ∨ j = 5 by omega) with rfl | rfl | rfl | rfl | rfl | rfl <;> rfl) (by
    show reE _ _ = 55
    unfold reE
    rw [if_neg (fun q => by have q1 := (q.2 0 (by show 0 < L.mb; omega)).2; have q2 : (2147483647 : Int) ≤ lef (sp9L L) S := q1; omega)]) (by decide)
/-- A window that is too high. -/
abbrev sp10L (L : Ly) : Ly := { L with r := 15, t := 0, b := 0, bd := 0 }
theorem sp_10 {L : Ly} {S : Sp} (h : faE L S = 0) (h1 : L.kd = 1) (hh : S.h ≤ 14) : faE (sp10L L) S = 32 := by
  have h' := h
  rw [fa_C h1] at h'
  have hz := frF_z h'
  have w2 : wiE L.r L.s L.sy L.sx L.t L.l L.b L.q = 0 := hz 2 (by decide)
  have w2 := zero_else (by decide) w2
  have o1 : ouE L = 0 := hz 1 (by decide)
  have o4 : oE L S.h S.v S.c = 0 := hz 4 (by decide)
  have o1 := zero_else (by decide) o1
  have W2 : WOk 15 L.s L.sy L.sx 0 L.l 0 L.q := ⟨⟨by omega, w2.1.2.1, by omega, by omega⟩, w2.2⟩
  rw [fa_C (show (sp10L L).kd = 1 from h1)]
  have ho : oE (sp10L L) S.h S.v S.c = 32 := by
    unfold oE at o4 ⊢
    rw [if_neg (by omega), if_neg (by omega)] at o4
    rw [if_neg (by show ¬ L.kd = 2; omega), if_neg (by show ¬ L.kd = 3; omega)]
    show slE S.h S.v S.c 15 L.s L.sy L.sx 0 L.l 0 L.q L.k = 32
    unfold slE at o4 ⊢
    have hc : chk S.h S.v S.c = 0 := by
      by_cases hc : chk S.h S.v S.c = 0
      · exact hc
      · rw [if_pos hc] at o4; exact absurd o4 hc
    rw [if_neg (by rw [hc]; decide), if_neg (by omega), if_neg (by exact fun q => q W2)]
    have e0 : stN S.h 0 0 15 L.sy = 0 := by unfold stN; rw [if_pos (by omega)]
    have p0 : 0 ≤ stN S.v L.l L.q L.s L.sx := by
      unfold stN
      split
      · exact Int.le_refl _
      · have := Int.ediv_nonneg (show 0 ≤ L.l + S.v + L.q - L.s by omega) (show 0 ≤ L.sx by have := w2.2.2.1.1; omega); omega
    rw [if_pos (by unfold mn2; rw [e0]; split <;> omega)]
  rw [frF_no (k := 4) (by decide) (fun j hj => ?_) (by show ¬ oE _ _ _ _ = 0; rw [ho]; decide)]
  · exact ho
  · rcases (show j = 0 ∨ j = 1 ∨ j = 2 ∨ j = 3 by omega) with rfl | rfl | rfl | rfl
    · exact hz 0 (by decide)
    · exact hz 1 (by decide)
    · show wiE 15 L.s L.sy L.sx 0 L.l 0 L.q = 0
      unfold wiE
      rw [if_pos W2]
    · show boE _ = 0
      unfold boE
      rw [if_pos (.inr rfl)]
end Go.Proofs.Ytkodihmjjiadnaa.Nn
/- TWINS OF NETWORKS: what the walk needs. -/
namespace Go.Proofs.Ytkodihmjjiadnaa.Nn
open Go.RowKit

theorem gr_none {w w' : World} (h : w.grownBy w' none) : Below w.heap.size w w' := gr_bel h (Below.refl _ _) (fun q hq => by cases hq)
/-- A list copied behind nothing. -/
theorem app_clW {ops : Array Oper} {rest : List Oper} {o : Oper} {a : Act} {Q : Exit → Act → World → Prop} {w : World} (hgd : o.guard = none) (s x : Operand)
    (ho : o.op = .call { callee := .builtin .append, args := #[s, x], argTypes := #[41, 41] }) (L : Ly) (hs : a.eval s = .slice none 0 0) (hx : a.eval x = .slice L.aw L.mw L.cw) (hW : Wts w L) (hn : L.aw = none → L.cw = 0) (hm : L.mw ≤ 140737488355328)
    (h : ∀ v' w', w'.ownsRow w.heap.size 49 1 v' L.mw (cl L.mw fun j => .int .i8 (L.ws j)) → Below w.heap.size w w' → wpList Try.prog ops Q rest (a.put o.dst v') w') : wpList Try.prog ops Q (o :: rest) a w := by
  obtain ⟨i0, hi, hz0, hz1, hz2⟩ := info_parts cinfW
  unfold Wts at hW
  cases ha : L.aw with
  | none =>
    have h0 : L.mw = 0 := by
      by_cases h : L.mw = 0
      · exact h
      · obtain ⟨g, o, e, _⟩ := hW 0 (by omega)
        rw [ha] at e; cases e
    rw [ha, h0, hn ha] at hx
    refine wpList_append_own_none hgd s x _ ho w.heap.size 49 i0 1 cundW hi (.slice none 0 0) 0 [] hs (World.ownsRow_nil _ _ _ _) hx (h _ _ ?_ (Below.refl _ _))
    rw [h0]
    exact World.ownsRow_nil _ _ _ _
  | some ad =>
    rw [ha] at hx hW
    refine wpList_append_own w hgd s x _ ho w.heap.size 49 i0 _ 1 1 cundW hi hz0 hz1 hz2 rfl (by decide) (.slice none 0 0) 0 [] hs (World.ownsRow_nil _ _ _ _) ad L.mw L.cw (cl L.mw fun j => .int .i8 (L.ws j)) hx (by rw [cl_len]; omega) (lay_of hW) (fun u hu => by obtain ⟨j, rfl⟩ := cl_mem hu; rfl) (by unfold maxLen; omega) (by omega) (Nat.le_refl _) ?_
    intro v' w' k1 k2 _
    rw [Nat.zero_add, List.nil_append] at k1
    exact h v' w' k1 (gr_none k2)
theorem app_clN {ops : Array Oper} {rest : List Oper} {o : Oper} {a : Act} {Q : Exit → Act → World → Prop} {w : World} (hgd : o.guard = none) (s x : Operand)
    (ho : o.op = .call { callee := .builtin .append, args := #[s, x], argTypes := #[42, 42] }) (L : Ly) (hs : a.eval s = .slice none 0 0) (hx : a.eval x = .slice L.an L.mn L.cn) (hW : Nms w L) (hn : L.an = none → L.cn = 0) (hm : L.mn * 64 ≤ 140737488355328)
    (h : ∀ v' w', w'.ownsRow w.heap.size 71 8 v' L.mn (cl (L.mn * 8) (nmc L)) → Below w.heap.size w w' → wpList Try.prog ops Q rest (a.put o.dst v') w') : wpList Try.prog ops Q (o :: rest) a w := by
  obtain ⟨i0, hi, hz0, hz1, hz2⟩ := info_parts cinfN
  unfold Nms at hW
  cases ha : L.an with
  | none =>
    have h0 : L.mn = 0 := by
      by_cases h : L.mn = 0
      · exact h
      · obtain ⟨g, o, e, _⟩ := hW 0 (by omega)
        rw [ha] at e; cases e
    rw [ha, h0, hn ha] at hx
    refine wpList_append_own_none hgd s x _ ho w.heap.size 71 i0 8 cundN hi (.slice none 0 0) 0 [] hs (World.ownsRow_nil _ _ _ _) hx (h _ _ ?_ (Below.refl _ _))
    rw [h0]
    exact World.ownsRow_nil _ _ _ _
  | some ad =>
    rw [ha] at hx hW
    refine wpList_append_own w hgd s x _ ho w.heap.size 71 i0 _ 8 64 cundN hi hz0 hz1 hz2 rfl (by decide) (.slice none 0 0) 0 [] hs (World.ownsRow_nil _ _ _ _) ad L.mn L.cn (cl (L.mn * 8) (nmc L)) hx (by rw [cl_len]) (lay_nms hW) (fun u hu => by obtain ⟨j, rfl⟩ := cl_mem hu; rfl) (by unfold maxLen; omega) (by omega) (Nat.le_refl _) ?_
    intro v' w' k1 k2 _
    rw [Nat.zero_add, List.nil_append] at k1
    exact h v' w' k1 (gr_none k2)
theorem app_clB {ops : Array Oper} {rest : List Oper} {o : Oper} {a : Act} {Q : Exit → Act → World → Prop} {w : World} (hgd : o.guard = none) (s x : Operand)
    (ho : o.op = .call { callee := .builtin .append, args := #[s, x], argTypes := #[43, 43] }) (L : Ly) (hs : a.eval s = .slice none 0 0) (hx : a.eval x = .slice L.ab L.mb L.cb) (hW : Bss w L) (hn : L.ab = none → L.cb = 0) (hm : L.mb * 8 ≤ 140737488355328)
    (h : ∀ v' w', w'.ownsRow w.heap.size 2 1 v' L.mb (cl L.mb fun j => .int .i64 (L.bs j)) → Below w.heap.size w w' → wpList Try.prog ops Q rest (a.put o.dst v') w') : wpList Try.prog ops Q (o :: rest) a w := by
  obtain ⟨i0, hi, hz0, hz1, hz2⟩ := info_parts cinfB
  unfold Bss at hW
  cases ha : L.ab with
  | none =>
    have h0 : L.mb = 0 := by
      by_cases h : L.mb = 0
      · exact h
      · obtain ⟨g, o, e, _⟩ := hW 0 (by omega)
        rw [ha] at e; cases e
    rw [ha, h0, hn ha] at hx
    refine wpList_append_own_none hgd s x _ ho w.heap.size 2 i0 1 cundB hi (.slice none 0 0) 0 [] hs (World.ownsRow_nil _ _ _ _) hx (h _ _ ?_ (Below.refl _ _))
    rw [h0]
    exact World.ownsRow_nil _ _ _ _
  | some ad =>
    rw [ha] at hx hW
    refine wpList_append_own w hgd s x _ ho w.heap.size 2 i0 _ 1 8 cundB hi hz0 hz1 hz2 rfl (by decide) (.slice none 0 0) 0 [] hs (World.ownsRow_nil _ _ _ _) ad L.mb L.cb (cl L.mb fun j => .int .i64 (L.bs j)) hx (by rw [cl_len]; omega) (lay_of hW) (fun u hu => by obtain ⟨j, rfl⟩ := cl_mem hu; rfl) (by unfold maxLen; omega) (by omega) (Nat.le_refl _) ?_
    intro v' w' k1 k2 _
    rw [Nat.zero_add, List.nil_append] at k1
    exact h v' w' k1 (gr_none k2)
/-- The marks behind a copy. -/
theorem app_mkW {ops : Array Oper} {rest : List Oper} {o : Oper} {a : Act} {Q : Exit → Act → World → Prop} {w : World} (hgd : o.guard = none) (s x : Operand)
    (ho : o.op = .call { callee := .builtin .append, args := #[s, x], argTypes := #[41, 41] }) (base : Nat) (v : Value) (xs : List Value) (n : Nat) (hs : a.eval s = v) (hown : w.ownsRow base 49 1 v n xs)
    (g cb : Nat) (y1 y2 : Int) (hx : a.eval x = .slice (some ⟨g, 0, none⟩) 2 cb) (r0 : w.cell? ⟨g, 0, none⟩ = some (.int .i8 y1)) (r1 : w.cell? ⟨g, 1, none⟩ = some (.int .i8 y2)) (hM : n ≤ 140737488355326) (hb : base ≤ w.heap.size)
    (h : ∀ v' w', w'.ownsRow base 49 1 v' (n + 2) (xs ++ [.int .i8 y1, .int .i8 y2]) → w.grownBy w' v.ownBlock → wpList Try.prog ops Q rest (a.put o.dst v') w') : wpList Try.prog ops Q (o :: rest) a w := by
  obtain ⟨i0, hi, hz0, hz1, hz2⟩ := info_parts cinfW
  refine wpList_append_own w hgd s x _ ho base 49 i0 _ 1 1 cundW hi hz0 hz1 hz2 rfl (by decide) v n xs hs hown ⟨g, 0, none⟩ 2 cb [.int .i8 y1, .int .i8 y2] hx rfl (fun j u hu => ?_) (fun u hu => by simp at hu; rcases hu with rfl | rfl <;> rfl) (by unfold maxLen; omega) (by omega) hb fun v' w' k1 k2 _ => h v' w' k1 k2
  rcases j with _ | _ | j
  · simp at hu; subst hu; exact r0
  · simp at hu; subst hu; exact r1
  · simp at hu
theorem app_mkB {ops : Array Oper} {rest : List Oper} {o : Oper} {a : Act} {Q : Exit → Act → World → Prop} {w : World} (hgd : o.guard = none) (s x : Operand)
    (ho : o.op = .call { callee := .builtin .append, args := #[s, x], argTypes := #[43, 43] }) (base : Nat) (v : Value) (xs : List Value) (n : Nat) (hs : a.eval s = v) (hown : w.ownsRow base 2 1 v n xs)
    (g cb : Nat) (y1 y2 : Int) (hx : a.eval x = .slice (some ⟨g, 0, none⟩) 2 cb) (r0 : w.cell? ⟨g, 0, none⟩ = some (.int .i64 y1)) (r1 : w.cell? ⟨g, 1, none⟩ = some (.int .i64 y2)) (hM : n * 8 ≤ 140737488355312) (hb : base ≤ w.heap.size)
    (h : ∀ v' w', w'.ownsRow base 2 1 v' (n + 2) (xs ++ [.int .i64 y1, .int .i64 y2]) → w.grownBy w' v.ownBlock → wpList Try.prog ops Q rest (a.put o.dst v') w') : wpList Try.prog ops Q (o :: rest) a w := by
  obtain ⟨i0, hi, hz0, hz1, hz2⟩ := info_parts cinfB
  refine wpList_append_own w hgd s x _ ho base 2 i0 _ 1 8 cundB hi hz0 hz1 hz2 rfl (by decide) v n xs hs hown ⟨g, 0, none⟩ 2 cb [.int .i64 y1, .int .i64 y2] hx rfl (fun j u hu => ?_) (fun u hu => by simp at hu; rcases hu with rfl | rfl <;> rfl) (by unfold maxLen; omega) (by omega) hb fun v' w' k1 k2 _ => h v' w' k1 k2
  rcases j with _ | _ | j
  · simp at hu; subst hu; exact r0
  · simp at hu; subst hu; exact r1
  · simp at hu
theorem app_mkN {ops : Array Oper} {rest : List Oper} {o : Oper} {a : Act} {Q : Exit → Act → World → Prop} {w : World} (hgd : o.guard = none) (s x : Operand)
    (ho : o.op = .call { callee := .builtin .append, args := #[s, x], argTypes := #[42, 42] }) (base : Nat) (v : Value) (xs : List Value) (n : Nat) (hs : a.eval s = v) (hown : w.ownsRow base 71 8 v n xs)
    (g cb : Nat) (y : Int) (hx : a.eval x = .slice (some ⟨g, 0, none⟩) 1 cb) (r0 : w.cell? ⟨g, 0, none⟩ = some (.int .i64 y)) (rr : ∀ c, 1 ≤ c → c < 8 → w.cell? ⟨g, c, none⟩ = some (.int .i64 0)) (hM : n * 64 ≤ 140737488355264) (hb : base ≤ w.heap.size)
    (h : ∀ v' w', w'.ownsRow base 71 8 v' (n + 1) (xs ++ [.int .i64 y, .int .i64 0, .int .i64 0, .int .i64 0, .int .i64 0, .int .i64 0, .int .i64 0, .int .i64 0]) → w.grownBy w' v.ownBlock → wpList Try.prog ops Q rest (a.put o.dst v') w') : wpList Try.prog ops Q (o :: rest) a w := by
  obtain ⟨i0, hi, hz0, hz1, hz2⟩ := info_parts cinfN
  refine wpList_append_own w hgd s x _ ho base 71 i0 _ 8 64 cundN hi hz0 hz1 hz2 rfl (by decide) v n xs hs hown ⟨g, 0, none⟩ 1 cb [.int .i64 y, .int .i64 0, .int .i64 0, .int .i64 0, .int .i64 0, .int .i64 0, .int .i64 0, .int .i64 0] hx rfl (fun j u hu => ?_) (fun u hu => by simp at hu; rcases hu with rfl | rfl <;> rfl) (by unfold maxLen; omega) (by omega) hb fun v' w' k1 k2 _ => h v' w' k1 k2
  rcases j with _ | _ | _ | _ | _ | _ | _ | _ | j
  · simp at hu; subst hu; exact r0
  · simp at hu; subst hu; exact rr 1 (by decide) (by decide)
  · simp at hu; subst hu; exact rr 2 (by decide) (by decide)
  · simp at hu; subst hu; exact rr 3 (by decide) (by decide)
  · simp at hu; subst hu; exact rr 4 (by decide) (by decide)
  · simp at hu; subst hu; exact rr 5 (by decide) (by decide)
  · simp at hu; subst hu; exact rr 6 (by decide) (by decide)
  · simp at hu; subst hu; exact rr 7 (by decide) (by decide)
  · simp at hu
/-- A layer whose lists go on with their marks. -/
abbrev bigL (L : Ly) : Ly := { L with mw := L.mw + 2, mn := L.mn + 1, mb := L.mb + 2, ws := fun j => if j < L.mw then L.ws j else if j = L.mw then 71 else 72, ns := fun j c => if j < L.mn then L.ns j c else if c = 0 then 73 else 0, bs := fun j => if j < L.mb then L.bs j else if j = L.mb then 74 else 75 }
theorem two_map (f : Nat → Int) (n : Nat) (y1 y2 : Int) (c : Int → Value) : ((List.range (n + 2)).map (fun j => if j < n then f j else if j = n then y1 else y2)).map c = (cl n fun j => c (f j)) ++ [c y1, c y2] := by
  unfold cl
  rw [List.range_succ, List.range_succ]
  simp only [List.map_append, List.map_cons, List.map_nil, List.append_assoc, List.map_map]
  congr 1
  · apply List.map_congr_left
    intro j hj
    have : j < n := List.mem_range.1 hj
    simp [this]
  · simp [show ¬ n + 1 < n by omega]
/-- The three lists of a twin's layer make it one. -/
theorem big_lo {W : World} {base : Nat} {L : Ly} {a1 a2 a3 : Option Addr} {c1 c2 c3 : Nat} (h1 : W.ownsRow base 49 1 (.slice a1 (L.mw + 2) c1) (L.mw + 2) ((cl L.mw fun j => .int .i8 (L.ws j)) ++ [.int .i8 71, .int .i8 72])) (h2 : W.ownsRow base 71 8 (.slice a2 (L.mn + 1) c2) (L.mn + 1) (cl (L.mn * 8) (nmc L) ++ [.int .i64 73, .int .i64 0, .int .i64 0, .int .i64 0, .int .i64 0, .int .i64 0, .int .i64 0, .int .i64 0])) (h3 : W.ownsRow base 2 1 (.slice a3 (L.mb + 2) c3) (L.mb + 2) ((cl L.mb fun j => .int .i64 (L.bs j)) ++ [.int .i64 74, .int .i64 75])) : Lo W base (bigL (cpy L a1 c1 a2 c2 a3 c3)) := by
  refine ⟨?_, ?_, ?_⟩
  · show W.ownsRow base _ 1 _ _ (i8L ((List.range (L.mw + 2)).map (fun j => if j < L.mw then L.ws j else if j = L.mw then 71 else 72)))
    unfold i8L
    rw [two_map]
    exact h1
  · show W.ownsRow base _ 8 _ _ (nmL (fun j c => if j < L.mn then L.ns j c else if c = 0 then 73 else 0) (L.mn + 1))
    rw [cl_rl] at h2
    have e : nmL (fun j c => if j < L.mn then L.ns j c else if c = 0 then 73 else 0) (L.mn + 1) = nmL L.ns L.mn ++ [.int .i64 73, .int .i64 0, .int .i64 0, .int .i64 0, .int .i64 0, .int .i64 0, .int .i64 0, .int .i64 0] := by
      rw [nmL, nmL_rl, nmL_rl]
      congr 1
      · exact rl_congr _ fun j hj => by simp [nmC, hj]
      · simp [nmC]
    rw [e]
    exact h2
  · show W.ownsRow base _ 1 _ _ (i64L ((List.range (L.mb + 2)).map (fun j => if j < L.mb then L.bs j else if j = L.mb then 74 else 75)))
    unfold i64L
    rw [two_map]
    exact h3
end Go.Proofs.Ytkodihmjjiadnaa.Nn
/- TWINS OF NETWORKS: the walk. -/
namespace Go.Proofs.Ytkodihmjjiadnaa.Nn
open Go.RowKit

/-- The mark behind the layers. -/
abbrev mk76 : Ly := ⟨76, 0, 0, 0, 0, 0, 0, 0, 0, 0, 0, 0, none, 0, 0, none, 0, 0, none, 0, 0, fun _ => 0, fun _ _ => 0, fun _ => 0⟩
/-- The twin under way. -/
def TS (W : World) (b : Nat) (N : Nt) (ua : Option Addr) (uc : Nat) (cf : Nat → Ly) (i : Nat) : Prop :=
  W.rowIs b 28 5 (netF N.nm N.h N.v N.c (.slice N.al N.ml N.cl)) ∧ W.rowIs (b + 1) 28 5 (netF ⟨#[]⟩ 0 0 0 (.slice none 0 0)) ∧ W.ownsRow (b + 2) 45 15 (.slice ua i uc) i (lyLs cf i) ∧ (∀ j, j < i → Lo W (b + 2) (bigL (cf j)) ∧ ∃ a1 c1 a2 c2 a3 c3, cf j = cpy (N.lf j) a1 c1 a2 c2 a3 c3) ∧ Dis cf i ∧ b + 2 ≤ W.heap.size
theorem TS.keep {W X : World} {b : Nat} {N : Nt} {ua : Option Addr} {uc : Nat} {cf : Nat → Ly} {i : Nat} (k : TS W b N ua uc cf i) (hb : Below W.heap.size W X) : TS X b N ua uc cf i := by
  obtain ⟨a1, a2, a3, a4, a5, a6⟩ := k
  exact ⟨World.rowIs.of_block a1 (hb.block _ a1.lt), World.rowIs.of_block a2 (hb.block _ a2.lt), own_bl a3 hb, fun j hj => ⟨(a4 j hj).1.bl hb, (a4 j hj).2⟩, a5, Nat.le_trans a6 hb.size⟩
theorem TS.set {W : World} {b : Nat} {N : Nt} {ua : Option Addr} {uc : Nat} {cf : Nat → Ly} {i c j : Nat} {u : Value} (k : TS W b N ua uc cf i) (hb1 : b + 1 < c) (hG : ∀ q, (Value.slice ua i uc).ownBlock = some q → q ≠ c) (hl : ∀ j, j < i → ∀ q, (obW (bigL (cf j)) = some q ∨ obB (bigL (cf j)) = some q ∨ (Value.slice (cf j).an ((cf j).mn + 1) (cf j).cn).ownBlock = some q) → q ≠ c) : TS (W.setCell ⟨c, j, none⟩ u) b N ua uc cf i := by
  obtain ⟨a1, a2, a3, a4, a5, a6⟩ := k
  refine ⟨a1.setOther (by show b ≠ c; omega) _, a2.setOther (by show b + 1 ≠ c; omega) _, own_setNe a3 hG, fun q hq => ⟨?_, (a4 q hq).2⟩, a5, by simpa using a6⟩
  obtain ⟨h1, h2, h3⟩ := (a4 q hq).1
  exact ⟨own_setNe h1 fun x hx => hl q hq x (.inl hx), own_setNe h2 fun x hx => hl q hq x (.inr (.inr hx)), own_setNe h3 fun x hx => hl q hq x (.inr (.inl hx))⟩
theorem TS.blk {W : World} {b : Nat} {N : Nt} {ua : Option Addr} {uc : Nat} {cf : Nat → Ly} {i : Nat} (k : TS W b N ua uc cf i) : (∀ q, (Value.slice ua i uc).ownBlock = some q → b + 2 ≤ q ∧ q < W.heap.size) ∧ ∀ j, j < i → ∀ q, (obW (bigL (cf j)) = some q ∨ obB (bigL (cf j)) = some q ∨ (Value.slice (cf j).an ((cf j).mn + 1) (cf j).cn).ownBlock = some q) → q < W.heap.size := by
  refine ⟨fun q hq => k.2.2.1.lt q hq, fun j hj q h => ?_⟩
  obtain ⟨h1, h2, h3⟩ := (k.2.2.2.1 j hj).1
  rcases h with h | h | h
  · exact (h1.lt q h).2
  · exact (h3.lt q h).2
  · exact (h2.lt q h).2
/-- A layer more. -/
theorem TS.snoc {X Y : World} {b z : Nat} {N : Nt} {ua a3 : Option Addr} {uc c3 : Nat} {cf : Nat → Ly} {i : Nat} {L' : Ly} (k : TS X b N ua uc cf i) (hz : ∀ j, j < i → ∀ q, (obW (bigL (cf j)) = some q ∨ obB (bigL (cf j)) = some q ∨ (Value.slice (cf j).an ((cf j).mn + 1) (cf j).cn).ownBlock = some q) → q < z) (lo : Lo X (b + 2) (bigL L')) (hw : ∀ q, obW L' = some q → z ≤ q) (hb : ∀ q, obB L' = some q → z ≤ q) (hn : ∀ q, obN L' = some q → z ≤ q) (hc : ∃ a1 c1 a2 c2 a3 c3, L' = cpy (N.lf i) a1 c1 a2 c2 a3 c3) (own : Y.ownsRow (b + 2) 45 15 (.slice a3 (i + 1) c3) (i + 1) (lyLs cf i ++ lyC L')) (gr : (X.alloc (lyo L')).grownBy Y (Value.slice ua i uc).ownBlock) : TS Y b N a3 c3 (sn cf i L') (i + 1) := by
  have B1 : Below X.heap.size X (X.alloc (lyo L')) := bl_alloc (Below.refl _ _) _
  have k1 := k.keep B1
  obtain ⟨h1, h2, h3, h4, h5, h6⟩ := k1
  have ne : ∀ q, q < b + 2 → some q ≠ (Value.slice ua i uc).ownBlock := fun q hq e => by have := (h3.lt q e.symm).1; omega
  refine ⟨World.rowIs.of_block h1 (gr.block b h1.lt (ne b (by omega))), World.rowIs.of_block h2 (gr.block (b + 1) h2.lt (ne (b + 1) (by omega))), ?_, fun j hj => ?_, ?_, Nat.le_trans h6 gr.size⟩
  · have e : lyLs (sn cf i L') (i + 1) = lyLs cf i ++ lyC L' := by
      show rl _ i ++ lyC (sn cf i L' i) = _
      rw [sn_eq]
      congr 1
      exact rl_congr i fun j hj => by rw [sn_ne hj]
    rw [e]; exact own
  · by_cases h : j = i
    · subst h
      rw [show sn cf j L' j = L' from sn_eq]
      exact ⟨(lo.bl B1).grow h3 (by decide) (by decide) (by decide) gr, hc⟩
    · rw [show sn cf i L' j = cf j from sn_ne (by omega)]
      exact ⟨(h4 j (by omega)).1.grow h3 (by decide) (by decide) (by decide) gr, (h4 j (by omega)).2⟩
  · refine k.2.2.2.2.1.snoc fun j hj => ⟨fun q e1 e2 => ?_, fun q e1 e2 => ?_, fun q e1 e2 => ?_⟩
    · have := hz j hj q (.inl (by rw [← e2]; unfold obW; cases (cf j).aw <;> rfl)); have := hw q e1; omega
    · have := hz j hj q (.inr (.inl (by rw [← e2]; unfold obB; cases (cf j).ab <;> rfl))); have := hb q e1; omega
    · have := hz j hj q (.inr (.inr (by rw [← e2]; unfold obN; cases (cf j).an <;> rfl))); have := hn q e1; omega
/-- Every layer's list that is nothing has no room. -/
def Nl (L : Ly) : Prop := (L.aw = none → L.cw = 0) ∧ (L.an = none → L.cn = 0) ∧ (L.ab = none → L.cb = 0)
set_option maxHeartbeats 12800000 in
set_option maxRecDepth 100000 in
theorem twin_any (N : Nt) (w : World) (hN : NtW w N) (hm : N.ml ≤ 1000000) (hL : ∀ j, j < N.ml → (N.lf j).mw ≤ 1000000000 ∧ (N.lf j).mn ≤ 1000000000 ∧ (N.lf j).mb ≤ 1000000000) (hl : ∀ j, j < N.ml → Nl (N.lf j)) :
    Calls Try.prog 23 #[ntv N] w fun e w' => ∃ ua uc cf, e = .returned (ntv ⟨N.nm, N.h, N.v, N.c, ua, N.ml, uc, cf⟩) ∧ w'.ownsRow w.heap.size 45 15 (.slice ua (N.ml + 1) uc) (N.ml + 1) (lyLs cf N.ml ++ lyC mk76) ∧ (∀ j, j < N.ml → Lo w' w.heap.size (bigL (cf j)) ∧ ∃ a1 c1 a2 c2 a3 c3, cf j = cpy (N.lf j) a1 c1 a2 c2 a3 c3) ∧ Dis cf N.ml ∧ Below w.heap.size w w' := by
  have HL := hid1 hL
  have HN := hid1 hN
  have HNL := hid1 hl
  clear hL hN hl
  obtain ⟨b, hb0⟩ : ∃ b, w.heap.size = b := ⟨_, rfl⟩
  have HB0 := hid1 hb0
  obtain ⟨M, hM⟩ : ∃ M, N.ml = M := ⟨_, rfl⟩
  have HM := hid1 hM
  rw [hM] at hm ⊢
  go_enter Try.func23, Try.ntmps23
  go_upto_region 1 with fail
  refine gen_world (fun X => Below w.heap.size w X ∧ TS X b N none 0 N.lf 0) ?gw ?_
  case gw =>
    subst hb0
    refine ⟨by repeat (first | (with_reducible exact Below.refl _ _) | (with_reducible refine bl_alloc ?_ _) | (with_reducible refine Below.drew ?_)), ?_, ?_, World.ownsRow_nil _ _ _ _, fun j hj => absurd hj (Nat.not_lt_zero j), Dis.zero _, by simp⟩
    · have h := (net_newF w N.nm N.h N.v N.c (.slice N.al M N.cl) 28).alloc (.cells #[.string ⟨#[]⟩, .int .i64 0, .int .i64 0, .int .i64 0, .slice none 0 0] 28)
      rw [HM.out]
      exact h
    · have := net_newF (w.alloc (.cells #[.string N.nm, .int .i64 N.h, .int .i64 N.v, .int .i64 N.c, .slice N.al M N.cl] 28)) ⟨#[]⟩ 0 0 0 (.slice none 0 0) 28
      simpa using this
  rintro X ⟨BX, TX⟩
  have HTX := hid1 TX
  clear TX
  go_wp2_with fail
  go_loopw [3, 4] (fun lv iv wr => ∃ (i : Nat) (ua : Option Addr) (uc : Nat) (cf : Nat → Ly), i ≤ M ∧ lv = .slice ua i uc ∧ iv = .int .i64 i ∧ Below w.heap.size w wr ∧ Hid (TS wr b N ua uc cf i)) (fun _ iv _ => M - (intOf iv).toNat)
  case atStart => exact ⟨0, none, 0, N.lf, Nat.zero_le _, rfl, rfl, BX, HTX⟩
  case round =>
    clear BX HTX X
    obtain ⟨i, ua, uc, cf, hi, rfl, rfl, BX, HTS⟩ := hrel
    have ii0 : (0 : Int) ≤ (i : Int) := by omega
    have n4 : wr.cell? ⟨b, 4, none⟩ = some (.slice N.al N.ml N.cl) := HTS.out.1.cell (i := 4) (by decide)
    rw [hM] at n4
    by_cases hlt : i < M
    · have ii : (i : Int) < (M : Int) := by omega
      have wI : IntKind.i64.wrap ((i : Int) + 1) = (i : Int) + 1 := by rw [IntKind.wrap_i64]; omega
      obtain ⟨gl, o, ea, LC, LL⟩ := (HN.out.keep BX).1 i (by rw [HM.out]; exact hlt)
      have HLL := hid1 LL
      have HLB := hid1 (HL.out i (by rw [HM.out]; exact hlt))
      have HNI := hid1 (HNL.out i (by rw [HM.out]; exact hlt))
      have HEA := hid1 ea
      rw [ea] at n4
      clear ea LL
      obtain ⟨L, hL⟩ : ∃ L, N.lf i = L := ⟨_, rfl⟩
      rw [hL] at LC HLL HLB HNI
      have HLE := hid1 hL
      clear hL
      obtain ⟨c0, c1, c2, c3, c4, c5, c6, c7, c8, c9, c10, c11, c12, c13, c14⟩ := LC
      obtain ⟨bl, hbl⟩ : ∃ x, wr.heap.size = x := ⟨_, rfl⟩
      go_upto_region 6 with fail
      refine gen_world (fun X => X.rowIs bl 45 15 (lyf L) ∧ Below wr.heap.size wr X ∧ bl < X.heap.size) ⟨by rw [← hbl]; exact lyf_new wr L _, bl_alloc (Below.refl _ _) _, by simp [hbl]⟩ ?_
      clear c0 c1 c2 c3 c4 c5 c6 c7 c8 c9 c10 c11 c12 c13 c14 n4
      rintro Z ⟨RL, BZ, zZ⟩
      have HRL := hid1 RL
      have HBZ := hid1 BZ
      have HLZ := hid1 (HLL.out.keep BZ)
      obtain ⟨z, hz⟩ : ∃ z, Z.heap.size = z := ⟨_, rfl⟩
      have HZZ := hid1 hz
      have b1 := HLB.out.1
      have b2 := HLB.out.2.1
      have b3 := HLB.out.2.2
      have l12 : Z.cell? ⟨bl, 12, none⟩ = some (.slice L.aw L.mw L.cw) := RL.cell (i := 12) (by decide)
      clear RL hz
      go_upto_region 7 with (at_builtin; refine app_clW rfl _ _ rfl L (by go_simp) (by go_simp) HLZ.out.1 HNI.out.1 (by omega) ?_; intro v1 y1 own1 bb1; obtain ⟨a1, d1, rfl⟩ := own_isP own1; have HO1 := hid1 own1; have HB1 := hid1 bb1; clear own1 bb1)
      go_upto_region 8 with (at_builtin; refine app_mkW rfl _ _ rfl Z.heap.size (.slice a1 L.mw d1) (cl L.mw fun j => .int .i8 (L.ws j)) L.mw (by go_simp) (HO1.out.alloc _) y1.heap.size 2 71 72 (by go_simp) (by simp [go_sem]) (by simp [go_sem]) (by omega) (by have := HB1.out.size; simp; omega) ?_; intro v2 y2 own2 gr2; obtain ⟨a2, d2, rfl⟩ := own_isP own2; have HO2 := hid1 own2; have HB2 := hid1 (gr_bel gr2 (bl_alloc HB1.out _) (fun q hq => (HO1.out.lt q hq).1)); clear own2 gr2)
      refine gen_world (fun X => X.ownsRow z 49 1 (.slice a2 (L.mw + 2) d2) (L.mw + 2) ((cl L.mw fun j => .int .i8 (L.ws j)) ++ [.int .i8 71, .int .i8 72]) ∧ Below Z.heap.size Z X) ⟨by rw [← HZZ.out]; exact HO2.out, HB2.out⟩ ?_
      clear HO1 HB1 HO2 HB2 l12
      rintro X2 ⟨OW, BX2⟩
      have HOW := hid1 OW
      have HBX2 := hid1 BX2
      have HL2 := hid1 (HLZ.out.keep BX2)
      have l13 : X2.cell? ⟨bl, 13, none⟩ = some (.slice L.an L.mn L.cn) := (World.rowIs.of_block HRL.out (BX2.block _ zZ)).cell (i := 13) (by decide)
      have zX2 : z ≤ X2.heap.size := by have := BX2.size; have := HZZ.out; omega
      clear OW BX2
      go_upto_region 9 with (at_builtin; refine app_clN rfl _ _ rfl L (by go_simp) (by go_simp) HL2.out.2.1 HNI.out.2.1 (by omega) ?_; intro v1 y3 own1 bb1; obtain ⟨a3, d3, rfl⟩ := own_isP own1; have HO1 := hid1 own1; have HB1 := hid1 bb1; clear own1 bb1)
      go_upto_region 10 with (at_builtin; refine app_mkN rfl _ _ rfl X2.heap.size (.slice a3 L.mn d3) (cl (L.mn * 8) (nmc L)) L.mn (by go_simp) (HO1.out.alloc _) y3.heap.size 1 73 (by go_simp) (by simp [go_sem]) (fun c h1 h2 => by rcases (show c = 1 ∨ c = 2 ∨ c = 3 ∨ c = 4 ∨ c = 5 ∨ c = 6 ∨ c = 7 by omega) with rfl | rfl | rfl | rfl | rfl | rfl | rfl <;> simp [go_sem]) (by omega) (by have := HB1.out.size; simp; omega) ?_; intro v2 y4 own2 gr2; obtain ⟨a4, d4, rfl⟩ := own_isP own2; have HO2 := hid1 own2; have HB2 := hid1 (gr_bel gr2 (bl_alloc HB1.out _) (fun q hq => (HO1.out.lt q hq).1)); clear own2 gr2)
      refine gen_world (fun X => X.ownsRow z 49 1 (.slice a2 (L.mw + 2) d2) (L.mw + 2) ((cl L.mw fun j => .int .i8 (L.ws j)) ++ [.int .i8 71, .int .i8 72]) ∧ X.ownsRow z 71 8 (.slice a4 (L.mn + 1) d4) (L.mn + 1) (cl (L.mn * 8) (nmc L) ++ [.int .i64 73, .int .i64 0, .int .i64 0, .int .i64 0, .int .i64 0, .int .i64 0, .int .i64 0, .int .i64 0]) ∧ Below Z.heap.size Z X) ⟨own_bl HOW.out HB2.out, HO2.out.mono zX2, bl_step HBX2.out HB2.out⟩ ?_
      clear HO1 HB1 HO2 HB2 l13 HOW HBX2 HL2 zX2
      rintro X3 ⟨OW, ON, BX3⟩
      have HOW := hid1 OW
      have HON := hid1 ON
      have HBX3 := hid1 BX3
      have HL3 := hid1 (HLZ.out.keep BX3)
      have l14 : X3.cell? ⟨bl, 14, none⟩ = some (.slice L.ab L.mb L.cb) := (World.rowIs.of_block HRL.out (BX3.block _ zZ)).cell (i := 14) (by decide)
      have zX3 : z ≤ X3.heap.size := by have := BX3.size; have := HZZ.out; omega
      clear OW ON BX3
      go_upto_region 11 with (at_builtin; refine app_clB rfl _ _ rfl L (by go_simp) (by go_simp) HL3.out.2.2.1 HNI.out.2.2 (by omega) ?_; intro v1 y5 own1 bb1; obtain ⟨a5, d5, rfl⟩ := own_isP own1; have HO1 := hid1 own1; have HB1 := hid1 bb1; clear own1 bb1)
      go_upto_region 12 with (at_builtin; refine app_mkB rfl _ _ rfl X3.heap.size (.slice a5 L.mb d5) (cl L.mb fun j => .int .i64 (L.bs j)) L.mb (by go_simp) (HO1.out.alloc _) y5.heap.size 2 74 75 (by go_simp) (by simp [go_sem]) (by simp [go_sem]) (by omega) (by have := HB1.out.size; simp; omega) ?_; intro v2 y6 own2 gr2; obtain ⟨a6, d6, rfl⟩ := own_isP own2; have HO2 := hid1 own2; have HB2 := hid1 (gr_bel gr2 (bl_alloc HB1.out _) (fun q hq => (HO1.out.lt q hq).1)); clear own2 gr2)
      obtain ⟨q1, rfl, e1, -, -, -⟩ := own_cellsS HOW.out (by omega)
      obtain ⟨q2, rfl, e2, -, -, -⟩ := own_cellsS HON.out (by omega)
      obtain ⟨q3, rfl, e3, -, -, -⟩ := own_cellsS HO2.out (by omega)
      refine gen_world (fun X => Lo X z (bigL (cpy L (some ⟨q1, 0, none⟩) d2 (some ⟨q2, 0, none⟩) d4 (some ⟨q3, 0, none⟩) d6)) ∧ Below Z.heap.size Z X) ⟨big_lo (own_bl HOW.out HB2.out) (own_bl HON.out HB2.out) (HO2.out.mono zX3), bl_step HBX3.out HB2.out⟩ ?_
      clear HO1 HB1 HO2 HB2 l14 HOW HON HBX3 HL3 zX3
      rintro X4 ⟨LO4, BX4⟩
      have RL4 := World.rowIs.of_block HRL.out (BX4.block _ zZ)
      have l12 : X4.cell? ⟨bl, 12, none⟩ = some (.slice L.aw L.mw L.cw) := RL4.cell (i := 12) (by decide)
      have l13 : X4.cell? ⟨bl, 13, none⟩ = some (.slice L.an L.mn L.cn) := RL4.cell (i := 13) (by decide)
      have l14 : X4.cell? ⟨bl, 14, none⟩ = some (.slice L.ab L.mb L.cb) := RL4.cell (i := 14) (by decide)
      have f12 := RL4.frozen 12
      have f13 := RL4.frozen 13
      have f14 := RL4.frozen 14
      have HY : Hid (∃ L', (((X4.setCell ⟨bl, 12, none⟩ (.slice (some ⟨q1, 0, none⟩) L.mw d2)).setCell ⟨bl, 13, none⟩ (.slice (some ⟨q2, 0, none⟩) L.mn d4)).setCell ⟨bl, 14, none⟩ (.slice (some ⟨q3, 0, none⟩) L.mb d6)).rowIs bl 45 15 (lyf L') ∧ L' = (cpy L (some ⟨q1, 0, none⟩) d2 (some ⟨q2, 0, none⟩) d4 (some ⟨q3, 0, none⟩) d6) ∧ Lo (((X4.setCell ⟨bl, 12, none⟩ (.slice (some ⟨q1, 0, none⟩) L.mw d2)).setCell ⟨bl, 13, none⟩ (.slice (some ⟨q2, 0, none⟩) L.mn d4)).setCell ⟨bl, 14, none⟩ (.slice (some ⟨q3, 0, none⟩) L.mb d6)) z (bigL L') ∧ TS (((X4.setCell ⟨bl, 12, none⟩ (.slice (some ⟨q1, 0, none⟩) L.mw d2)).setCell ⟨bl, 13, none⟩ (.slice (some ⟨q2, 0, none⟩) L.mn d4)).setCell ⟨bl, 14, none⟩ (.slice (some ⟨q3, 0, none⟩) L.mb d6)) b N ua uc cf i ∧ Below w.heap.size w (((X4.setCell ⟨bl, 12, none⟩ (.slice (some ⟨q1, 0, none⟩) L.mw d2)).setCell ⟨bl, 13, none⟩ (.slice (some ⟨q2, 0, none⟩) L.mn d4)).setCell ⟨bl, 14, none⟩ (.slice (some ⟨q3, 0, none⟩) L.mb d6))) := hid1 (by
        have R5 := lyf_set RL4 (cpy L (some ⟨q1, 0, none⟩) d2 L.an L.cn L.ab L.cb) 12 (.slice (some ⟨q1, 0, none⟩) L.mw d2) ⟨rfl, rfl, rfl, rfl, rfl, rfl, rfl, rfl, rfl, rfl, rfl, rfl, rfl, rfl, rfl⟩
        have R6 := lyf_set R5 (cpy L (some ⟨q1, 0, none⟩) d2 (some ⟨q2, 0, none⟩) d4 L.ab L.cb) 13 (.slice (some ⟨q2, 0, none⟩) L.mn d4) ⟨rfl, rfl, rfl, rfl, rfl, rfl, rfl, rfl, rfl, rfl, rfl, rfl, rfl, rfl, rfl⟩
        have R7 := lyf_set R6 (cpy L (some ⟨q1, 0, none⟩) d2 (some ⟨q2, 0, none⟩) d4 (some ⟨q3, 0, none⟩) d6) 14 (.slice (some ⟨q3, 0, none⟩) L.mb d6) ⟨rfl, rfl, rfl, rfl, rfl, rfl, rfl, rfl, rfl, rfl, rfl, rfl, rfl, rfl, rfl⟩
        have hz := HZZ.out
        have T4 := (HTS.out.keep HBZ.out).keep BX4
        have TB := HTS.out.blk
        have hg : ∀ q, (Value.slice ua i uc).ownBlock = some q → q ≠ bl := fun q h => by have := (TB.1 q h).2; omega
        have hne : ∀ j, j < i → ∀ q, (obW (bigL (cf j)) = some q ∨ obB (bigL (cf j)) = some q ∨ (Value.slice (cf j).an ((cf j).mn + 1) (cf j).cn).ownBlock = some q) → q ≠ bl := fun j hj q h => by have := TB.2 j hj q h; omega
        have hb1 : b + 1 < bl := by have := HTS.out.2.2.2.2.2; omega
        have hw : w.heap.size ≤ bl := by have := BX.size; omega
        exact ⟨_, R7, rfl, ((LO4.set (by omega)).set (by omega)).set (by omega), ((T4.set hb1 hg hne).set hb1 hg hne).set hb1 hg hne, bl_set (bl_set (bl_set (bl_step (bl_step BX HBZ.out) BX4) hw _) hw _) hw _⟩)
      have m0 : (0 : Int) ≤ (L.mw : Int) := by omega
      have m1 : (L.mw : Int) ≤ (d2 : Int) := by omega
      have m2 : ¬ d2 = 0 := by omega
      have m3 : (0 : Int) ≤ (L.mn : Int) := by omega
      have m4 : (L.mn : Int) ≤ (d4 : Int) := by omega
      have m5 : ¬ d4 = 0 := by omega
      have m6 : (0 : Int) ≤ (L.mb : Int) := by omega
      have m7 : (L.mb : Int) ≤ (d6 : Int) := by omega
      have m8 : ¬ d6 = 0 := by omega
      clear LO4 BX4 RL4 HLZ HRL
      go_upto_region 15 with fail
      refine gen_world (fun Y => ∃ L', Y.rowIs bl 45 15 (lyf L') ∧ L' = (cpy L (some ⟨q1, 0, none⟩) d2 (some ⟨q2, 0, none⟩) d4 (some ⟨q3, 0, none⟩) d6) ∧ Lo Y z (bigL L') ∧ TS Y b N ua uc cf i ∧ Below w.heap.size w Y) HY.out ?_
      clear HY l12 l13 l14 f12 f13 f14 m0 m1 m2 m3 m4 m5 m6 m7 m8
      rintro Y ⟨L', RL, eL, LO, TY, BY⟩
      obtain ⟨l0, l1, l2, l3, l4, l5, l6, l7, l8, l9, l10, l11, l12, l13, l14⟩ := lyf_cells RL
      have HLO := hid1 LO
      have HTY := hid1 TY
      have HBY := hid1 BY
      have HSN : Hid (∀ (Y2 : World) (a9 : Option Addr) (c9 : Nat), Y2.ownsRow (b + 2) 45 15 (.slice a9 (i + 1) c9) (i + 1) (lyLs cf i ++ lyC L') → (Y.alloc (lyo L')).grownBy Y2 (Value.slice ua i uc).ownBlock → TS Y2 b N a9 c9 (sn cf i L') (i + 1) ∧ Below w.heap.size w Y2) := hid1 (fun Y2 a9 c9 own gr => by
        have hz := HZZ.out
        have hb2 : b + 2 ≤ z := by have := HTS.out.2.2.2.2.2; have := HBZ.out.size; omega
        have hbz : bl ≤ z := by omega
        refine ⟨TY.snoc (z := bl) (fun j hj q h => by have := HTS.out.blk.2 j hj q h; omega) (LO.mono hb2) (fun q h => ?_) (fun q h => ?_) (fun q h => ?_) ⟨some ⟨q1, 0, none⟩, d2, some ⟨q2, 0, none⟩, d4, some ⟨q3, 0, none⟩, d6, by rw [HLE.out]; exact eL⟩ own gr, gr_bel gr (bl_alloc BY _) (fun q hq => ?_)⟩
        · have := (LO.1.lt q (by rw [← h]; unfold obW; cases L'.aw <;> rfl)).1; omega
        · have := (LO.2.2.lt q (by rw [← h]; unfold obB; cases L'.ab <;> rfl)).1; omega
        · have := (LO.2.1.lt q (by rw [← h]; unfold obN; cases L'.an <;> rfl)).1; omega
        · have := (TY.2.2.1.lt q hq).1; have := HB0.out; omega)
      clear LO TY eL RL BX BY HLL HLB HNI hbl zZ BZ b1 b2 b3 e1 e2 e3
      have hi1 : i ≤ 1000000000 := by omega
      have hYb : b + 2 ≤ Y.heap.size := HTY.out.2.2.2.2.2
      go_wp2_with (at_builtin; refine app_lyD rfl _ _ rfl (b + 2) (.slice ua i uc) (lyLs cf i) i (by go_simp) (own_bl HTY.out.2.2.1 (bl_alloc (Below.refl _ _) _)) Y.heap.size L' 1 (by go_simp) (lp_new' rfl L' _) (by omega) (by simp; omega) ?_; intro v9 y9 own9 gr9; obtain ⟨a9, c9, rfl⟩ := own_isP own9; have HE9 := hid1 (HSN.out y9 a9 c9 own9 gr9); clear own9 gr9 l0 l1 l2 l3 l4 l5 l6 l7 l8 l9 l10 l11 l12 l13 l14)
      exact ⟨⟨i + 1, a9, c9, sn cf i L', by omega, rfl, by go_num, HE9.out.2, hid1 HE9.out.1⟩, by simp [intOf]; omega⟩
    · have hiM : i = M := by omega
      subst hiM
      clear hlt
      have hwb : b + 2 ≤ wr.heap.size := HTS.out.2.2.2.2.2
      have HBX := hid1 BX
      go_upto_region 17 with (at_builtin; refine app_lyD rfl _ _ rfl (b + 2) (.slice ua i uc) (lyLs cf i) i (by go_simp) (own_bl HTS.out.2.2.1 (bl_alloc (Below.refl _ _) _)) wr.heap.size mk76 1 (by go_simp) (lp_new' rfl mk76 _) (by omega) (by simp; omega) ?_; intro v9 y9 own9 gr9; obtain ⟨a9, c9, rfl⟩ := own_isP own9; have HO9 := hid1 own9; have HG9 := hid1 gr9; clear own9 gr9)
      obtain ⟨G, rfl, e9, -, -, -⟩ := own_cellsS HO9.out (by omega)
      refine gen_world (fun Y => Y.rowIs b 28 5 (netF N.nm N.h N.v N.c (.slice N.al i N.cl)) ∧ Y.rowIs (b + 1) 28 5 (netF ⟨#[]⟩ 0 0 0 (.slice none 0 0)) ∧ Y.ownsRow (b + 2) 45 15 (.slice (some ⟨G, 0, none⟩) (i + 1) c9) (i + 1) (lyLs cf i ++ lyC mk76) ∧ (∀ j, j < i → Lo Y (b + 2) (bigL (cf j))) ∧ Below w.heap.size w Y) ?gw2 ?_
      case gw2 =>
        have B1 : Below wr.heap.size wr (wr.alloc (lyo mk76)) := bl_alloc (Below.refl _ _) _
        have k1 := HTS.out.keep B1
        obtain ⟨h1, h2, h3, h4, h5, h6⟩ := k1
        have ne : ∀ q, q < b + 2 → some q ≠ (Value.slice ua i uc).ownBlock := fun q hq e => by have := (h3.lt q e.symm).1; omega
        rw [HM.out] at h1
        exact ⟨World.rowIs.of_block h1 (HG9.out.block b h1.lt (ne b (by omega))), World.rowIs.of_block h2 (HG9.out.block (b + 1) h2.lt (ne (b + 1) (by omega))), HO9.out, fun j hj => (h4 j hj).1.grow h3 (by decide) (by decide) (by decide) HG9.out, gr_bel HG9.out (bl_alloc HBX.out _) (fun q hq => by have := (HTS.out.2.2.1.lt q hq).1; have := HB0.out; omega)⟩
      clear HO9 HG9 n4 BX HBX
      rintro Y ⟨R0, R1, OY, LY, BY⟩
      have n0 : Y.cell? ⟨b, 0, none⟩ = some (.string N.nm) := R0.cell (i := 0) (by decide)
      have n1 : Y.cell? ⟨b, 1, none⟩ = some (.int .i64 N.h) := R0.cell (i := 1) (by decide)
      have n2 : Y.cell? ⟨b, 2, none⟩ = some (.int .i64 N.v) := R0.cell (i := 2) (by decide)
      have n3 : Y.cell? ⟨b, 3, none⟩ = some (.int .i64 N.c) := R0.cell (i := 3) (by decide)
      have n4 : Y.cell? ⟨b, 4, none⟩ = some (.slice N.al i N.cl) := R0.cell (i := 4) (by decide)
      have f4b := R0.frozen 4
      have r0 : Y.cell? ⟨b + 1, 0, none⟩ = some (.string ⟨#[]⟩) := R1.cell (i := 0) (by decide)
      have r1 : Y.cell? ⟨b + 1, 1, none⟩ = some (.int .i64 0) := R1.cell (i := 1) (by decide)
      have r2 : Y.cell? ⟨b + 1, 2, none⟩ = some (.int .i64 0) := R1.cell (i := 2) (by decide)
      have r3 : Y.cell? ⟨b + 1, 3, none⟩ = some (.int .i64 0) := R1.cell (i := 3) (by decide)
      have r4 : Y.cell? ⟨b + 1, 4, none⟩ = some (.slice none 0 0) := R1.cell (i := 4) (by decide)
      have f0 := R1.frozen 0
      have f1 := R1.frozen 1
      have f2 := R1.frozen 2
      have f3 := R1.frozen 3
      have f4 := R1.frozen 4
      have m1 : (i : Int) ≤ (c9 : Int) := by omega
      have m2 : ¬ c9 = 0 := by omega
      have HR1 := hid1 R1
      have HOY := hid1 OY
      have HLY := hid1 LY
      have HBY := hid1 BY
      have HDS := hid1 HTS.out.2.2.2.2.1
      have HCP := hid1 (fun j (hj : j < i) => (HTS.out.2.2.2.1 j hj).2)
      clear R0 R1 OY LY BY HTS
      go_wp2_with fail
      refine bodyPost_ret (results_cell_row Try.results23 _ _ (b + 1) 28 _ (0, 0) _ (by go_simp) (row5 (netF_allN (HR1.out.setOther (by show b + 1 ≠ b; omega) _))) Try.underlying28 rfl (by kernel_rfl)) rfl ?_
      have hb1 : w.heap.size ≤ b + 1 := by have := HB0.out; omega
      have hb2 : w.heap.size ≤ b + 2 := by omega
      have hbb : w.heap.size ≤ b := by have := HB0.out; omega
      refine ⟨some ⟨G, 0, none⟩, c9, cf, rfl, ?_, fun j hj => ⟨?_, HCP.out j hj⟩, HDS.out, bl_set (bl_set (bl_set (bl_set (bl_set (bl_set HBY.out hbb _) hb1 _) hb1 _) hb1 _) hb1 _) hb1 _⟩
      · exact (own_setD (own_setD (own_setD (own_setD (own_setD (own_setD HOY.out (by omega)) (by omega)) (by omega)) (by omega)) (by omega)) (by omega)).mono hb2
      · exact ((((((HLY.out j hj).set (by omega)).set (by omega)).set (by omega)).set (by omega)).set (by omega)).set (by omega) |>.mono hb2
end Go.Proofs.Ytkodihmjjiadnaa.Nn
/- NETMADE: a copy with one thing changed. -/
namespace Go.Proofs.Ytkodihmjjiadnaa.Nn
open Go.RowKit

theorem mk_netG {W : World} {base : Nat} {nm : ByteArray} {H V C : Int} {M : Nat} {ua : Option Addr} {uc : Nat} {lf : Nat → Ly} (hnm : nm.size ≤ 1000) (hM : M ≤ 64) (hrow : W.ownsRow base 45 15 (.slice ua M uc) M (lyLs lf M)) (hlo : ∀ j, j < M → Lo W base (lf j) ∧ (lf j).mw ≤ 1000000 ∧ (lf j).mn ≤ 1000000 ∧ (lf j).mb ≤ 1000000) : NtW W ⟨nm, H, V, C, ua, M, uc, lf⟩ := by
  refine ⟨fun j hj => ?_, by show M ≤ _; omega, by show nm.size ≤ _; omega⟩
  have hj : j < M := hj
  obtain ⟨g, e, -, -, -, hc⟩ := own_cellsS hrow (by omega)
  have key : ∀ c, c < 15 → W.cell? ⟨g, 0 + j * 15 + c, none⟩ = (lyC (lf j))[c]? := fun c hc' => by
    rw [Nat.zero_add, hc _ (by omega)]
    exact rl_get (s := 15) (fun _ => rfl) M hj hc'
  obtain ⟨h1, h2, h3, h4⟩ := hlo j hj
  exact ⟨g, 0, e, ⟨key 0 (by decide), key 1 (by decide), key 2 (by decide), key 3 (by decide), key 4 (by decide), key 5 (by decide), key 6 (by decide), key 7 (by decide), key 8 (by decide), key 9 (by decide), key 10 (by decide), key 11 (by decide), key 12 (by decide), key 13 (by decide), key 14 (by decide)⟩, h1.lst h2 h3 h4⟩
/-- The copy's memory. -/
def Cm (W : World) (base g : Nat) (nm : ByteArray) (H V C : Int) (M : Nat) (ua : Option Addr) (uc : Nat) (cf : Nat → Ly) : Prop :=
  W.rowIs g 28 5 (netF nm H V C (.slice ua M uc)) ∧ W.ownsRow base 45 15 (.slice ua M uc) M (lyLs cf M) ∧ (∀ j, j < M → Lo W base (cf j) ∧ (cf j).mw ≤ 1000000 ∧ (cf j).mn ≤ 1000000 ∧ (cf j).mb ≤ 1000000) ∧ base ≤ g
theorem Cm.net {W : World} {base g : Nat} {nm : ByteArray} {H V C : Int} {M : Nat} {ua : Option Addr} {uc : Nat} {cf : Nat → Ly} (h : Cm W base g nm H V C M ua uc cf) (hnm : nm.size ≤ 1000) (hM : M ≤ 64) : NtW W ⟨nm, H, V, C, ua, M, uc, cf⟩ := mk_netG hnm hM h.2.1 h.2.2.1
theorem Cm.keep {W X : World} {base g : Nat} {nm : ByteArray} {H V C : Int} {M : Nat} {ua : Option Addr} {uc : Nat} {cf : Nat → Ly} (h : Cm W base g nm H V C M ua uc cf) (hb : Below W.heap.size W X) : Cm X base g nm H V C M ua uc cf :=
  ⟨World.rowIs.of_block h.1 (hb.block _ h.1.lt), own_bl h.2.1 hb, fun j hj => ⟨(h.2.2.1 j hj).1.bl hb, (h.2.2.1 j hj).2⟩, h.2.2.2⟩
theorem Lo.hi {W : World} {base g j t k : Nat} {L : Ly} {u : Value} {F : Nat → Value} (h : Lo W base L) (hr : W.rowIs g t k F) (h8 : 49 ≠ t) (hn : 71 ≠ t) (h6 : 2 ≠ t) : Lo (W.setCell ⟨g, j, none⟩ u) base L := ⟨own_setHi h.1 hr.lt hr h8, own_setHi h.2.1 hr.lt hr hn, own_setHi h.2.2 hr.lt hr h6⟩
/-- Its name, or the input's channels. -/
theorem Cm.name {W : World} {base g : Nat} {nm : ByteArray} {H V C : Int} {M : Nat} {ua : Option Addr} {uc : Nat} {cf : Nat → Ly} (h : Cm W base g nm H V C M ua uc cf) (nm' : ByteArray) : Cm (W.setCell ⟨g, 0, none⟩ (.string nm')) base g nm' H V C M ua uc cf :=
  ⟨(h.1.set 0 _).congr fun q hq => (by rcases (show q = 0 ∨ q = 1 ∨ q = 2 ∨ q = 3 ∨ q = 4 by omega) with rfl | rfl | rfl | rfl | rfl <;> rfl), own_setHi h.2.1 h.1.lt h.1 (by decide), fun j hj => ⟨(h.2.2.1 j hj).1.hi h.1 (by decide) (by decide) (by decide), (h.2.2.1 j hj).2⟩, h.2.2.2⟩
theorem Cm.chan {W : World} {base g : Nat} {nm : ByteArray} {H V C : Int} {M : Nat} {ua : Option Addr} {uc : Nat} {cf : Nat → Ly} (h : Cm W base g nm H V C M ua uc cf) (C' : Int) : Cm (W.setCell ⟨g, 3, none⟩ (.int .i64 C')) base g nm H V C' M ua uc cf :=
  ⟨(h.1.set 3 _).congr fun q hq => (by rcases (show q = 0 ∨ q = 1 ∨ q = 2 ∨ q = 3 ∨ q = 4 by omega) with rfl | rfl | rfl | rfl | rfl <;> rfl), own_setHi h.2.1 h.1.lt h.1 (by decide), fun j hj => ⟨(h.2.2.1 j hj).1.hi h.1 (by decide) (by decide) (by decide), (h.2.2.1 j hj).2⟩, h.2.2.2⟩
theorem ownNe {W : World} {b1 b2 e1 e2 s1 s2 n1 n2 q : Nat} {v1 v2 : Value} {x1 x2 : List Value} (h1 : W.ownsRow b1 e1 s1 v1 n1 x1) (h2 : W.ownsRow b2 e2 s2 v2 n2 x2) (hne : e1 ≠ e2) (hq : v2.ownBlock = some q) : ∀ p, v1.ownBlock = some p → p ≠ q := fun p hp e => by
  subst e
  rcases own_neD h1 h2 hne with h | h
  · rw [h] at hp; cases hp
  · exact h (hp.trans hq.symm)
theorem rowNe {W : World} {g t k b2 e2 s2 n2 q : Nat} {F : Nat → Value} {v2 : Value} {x2 : List Value} (h : W.rowIs g t k F) (h2 : W.ownsRow b2 e2 s2 v2 n2 x2) (hne : e2 ≠ t) (hq : v2.ownBlock = some q) : g ≠ q := fun e => (own_ne_row h2 h hne q hq) e.symm
/-- A layer with another first weight, bias, or number of outputs. -/
abbrev wtL (L : Ly) (y : Int) : Ly := { L with ws := fun j => if j = 0 then y else L.ws j }
abbrev biL (L : Ly) (y : Int) : Ly := { L with bs := fun j => if j = 0 then y else L.bs j }
abbrev kL (L : Ly) (y : Int) : Ly := { L with k := y }
theorem set0_map {f g : Nat → Int} {n : Nat} {y : Int} (c : Int → Value) (hn : 1 ≤ n) (hg : ∀ j, g j = if j = 0 then y else f j) : (((List.range n).map f).map c).set 0 (c y) = ((List.range n).map g).map c := by
  apply List.ext_getElem?
  intro k
  rw [List.getElem?_set]
  by_cases hk : 0 = k
  · subst hk
    rw [if_pos rfl, if_pos (by simp; omega)]
    simp [hg, show 0 < n by omega]
  · rw [if_neg hk]
    by_cases hkn : k < n
    · simp [hkn, hg, show ¬ k = 0 by omega]
    · simp [hkn]
theorem sn_at {cf : Nat → Ly} {k : Nat} {L : Ly} {P : Ly → Prop} {M : Nat} (h1 : P L) (h2 : ∀ j, j < M → j ≠ k → P (cf j)) : ∀ j, j < M → P (sn cf k L j) := fun j hj => by
  unfold sn
  by_cases h : j = k
  · rw [if_pos h]; exact h1
  · rw [if_neg h]; exact h2 j hj h
theorem lyLs_same {cf : Nat → Ly} {k M : Nat} {L : Ly} (h : lyC L = lyC (cf k)) : lyLs (sn cf k L) M = lyLs cf M := rl_congr M fun j _ => by
  unfold sn
  by_cases e : j = k
  · subst e; rw [if_pos rfl, h]
  · rw [if_neg e]
theorem Cm.weight {W : World} {base g q : Nat} {nm : ByteArray} {H V C : Int} {M : Nat} {ua : Option Addr} {uc : Nat} {cf : Nat → Ly} (h : Cm W base g nm H V C M ua uc cf) (hd : Dis cf M) {k : Nat} (hk : k < M) (hw : 1 ≤ (cf k).mw) (hq : (cf k).aw = some ⟨q, 0, none⟩) (y : Int) : Cm (W.setCell ⟨q, 0, none⟩ (.int .i8 y)) base g nm H V C M ua uc (sn cf k (wtL (cf k) y)) := by
  obtain ⟨h1, h2, h3, h4⟩ := h
  have lk := (h3 k hk).1
  have ob : obW (cf k) = some q := by unfold obW; rw [hq]; rfl
  refine ⟨h1.setOther (rowNe h1 lk.1 (by decide) ob) _, ?_, sn_at (P := fun L => Lo _ base L ∧ L.mw ≤ 1000000 ∧ L.mn ≤ 1000000 ∧ L.mb ≤ 1000000) ⟨⟨?_, ?_, ?_⟩, (h3 k hk).2⟩ fun j hj hne => ⟨⟨?_, ?_, ?_⟩, (h3 j hj).2⟩, h4⟩
  · rw [lyLs_same (L := wtL (cf k) y) rfl]
    exact own_setNe h2 (ownNe h2 lk.1 (by decide) ob)
  · have l1 := lk.1
    rw [hq] at l1
    have := (l1.stored 0 (.int .i8 y)).1
    unfold i8L at this
    rw [set0_map (Value.int .i8) hw (fun _ => rfl)] at this
    show (W.setCell _ _).ownsRow base _ 1 (.slice (cf k).aw _ _) _ _
    rw [hq]
    exact this
  · exact own_setNe lk.2.1 (ownNe lk.2.1 lk.1 (by decide) ob)
  · exact own_setNe lk.2.2 (ownNe lk.2.2 lk.1 (by decide) ob)
  · exact own_setNe (h3 j hj).1.1 fun p hp e => (hd j hj k hk hne).1 p hp (by rw [e]; exact ob)
  · exact own_setNe (h3 j hj).1.2.1 (ownNe (h3 j hj).1.2.1 lk.1 (by decide) ob)
  · exact own_setNe (h3 j hj).1.2.2 (ownNe (h3 j hj).1.2.2 lk.1 (by decide) ob)
theorem Cm.bias {W : World} {base g q : Nat} {nm : ByteArray} {H V C : Int} {M : Nat} {ua : Option Addr} {uc : Nat} {cf : Nat → Ly} (h : Cm W base g nm H V C M ua uc cf) (hd : Dis cf M) {k : Nat} (hk : k < M) (hw : 1 ≤ (cf k).mb) (hq : (cf k).ab = some ⟨q, 0, none⟩) (y : Int) : Cm (W.setCell ⟨q, 0, none⟩ (.int .i64 y)) base g nm H V C M ua uc (sn cf k (biL (cf k) y)) := by
  obtain ⟨h1, h2, h3, h4⟩ := h
  have lk := (h3 k hk).1
  have ob : obB (cf k) = some q := by unfold obB; rw [hq]; rfl
  refine ⟨h1.setOther (rowNe h1 lk.2.2 (by decide) ob) _, ?_, sn_at (P := fun L => Lo _ base L ∧ L.mw ≤ 1000000 ∧ L.mn ≤ 1000000 ∧ L.mb ≤ 1000000) ⟨⟨?_, ?_, ?_⟩, (h3 k hk).2⟩ fun j hj hne => ⟨⟨?_, ?_, ?_⟩, (h3 j hj).2⟩, h4⟩
  · rw [lyLs_same (L := biL (cf k) y) rfl]
    exact own_setNe h2 (ownNe h2 lk.2.2 (by decide) ob)
  · exact own_setNe lk.1 (ownNe lk.1 lk.2.2 (by decide) ob)
  · exact own_setNe lk.2.1 (ownNe lk.2.1 lk.2.2 (by decide) ob)
  · have l1 := lk.2.2
    rw [hq] at l1
    have := (l1.stored 0 (.int .i64 y)).1
    unfold i64L at this
    rw [set0_map (Value.int .i64) hw (fun _ => rfl)] at this
    show (W.setCell _ _).ownsRow base _ 1 (.slice (cf k).ab _ _) _ _
    rw [hq]
    exact this
  · exact own_setNe (h3 j hj).1.1 (ownNe (h3 j hj).1.1 lk.2.2 (by decide) ob)
  · exact own_setNe (h3 j hj).1.2.1 (ownNe (h3 j hj).1.2.1 lk.2.2 (by decide) ob)
  · exact own_setNe (h3 j hj).1.2.2 fun p hp e => (hd j hj k hk hne).2.1 p hp (by rw [e]; exact ob)
theorem ls_set2 {cf : Nat → Ly} {M : Nat} (hM : 1 ≤ M) (y : Int) : (lyLs cf M).set 2 (.int .i64 y) = lyLs (sn cf 0 (kL (cf 0) y)) M := by
  rw [← ls_put (show 0 < M by omega)]
  apply List.ext_getElem?
  intro k
  have hl : (lyLs cf M).length = M * 15 := rl_len (s := 15) (fun _ => rfl) M
  rw [putL_get _ _ _ _ (by rw [hl, lyC_len]; omega), lyC_len, List.getElem?_set]
  by_cases hk : k < 15
  · have h2 : (lyLs cf M)[k]? = (lyC (cf 0))[k]? := by
      have := rl_get (F := fun j => lyC (cf j)) (s := 15) (fun _ => rfl) M (j := 0) (c := k) (by omega) hk
      rwa [Nat.zero_mul, Nat.zero_add] at this
    have e : (if 0 * 15 ≤ k ∧ k < 0 * 15 + 15 then (lyC (kL (cf 0) y))[k - 0 * 15]? else (lyLs cf M)[k]?) = (lyC (kL (cf 0) y))[k]? := by
      rw [if_pos (by omega), show k - 0 * 15 = k by omega]
    rw [e]
    by_cases h : 2 = k
    · subst h
      rw [if_pos rfl, if_pos (by omega)]
      rfl
    · rw [if_neg h, h2]
      rcases (show k = 0 ∨ k = 1 ∨ k = 3 ∨ k = 4 ∨ k = 5 ∨ k = 6 ∨ k = 7 ∨ k = 8 ∨ k = 9 ∨ k = 10 ∨ k = 11 ∨ k = 12 ∨ k = 13 ∨ k = 14 by omega) with rfl | rfl | rfl | rfl | rfl | rfl | rfl | rfl | rfl | rfl | rfl | rfl | rfl | rfl <;> rfl
  · have e : (if 0 * 15 ≤ k ∧ k < 0 * 15 + 15 then (lyC (kL (cf 0) y))[k - 0 * 15]? else (lyLs cf M)[k]?) = (lyLs cf M)[k]? := if_neg (by omega)
    rw [e, if_neg (by omega)]
theorem Cm.outs {W : World} {base g G : Nat} {nm : ByteArray} {H V C : Int} {M : Nat} {uc : Nat} {cf : Nat → Ly} (h : Cm W base g nm H V C M (some ⟨G, 0, none⟩) uc cf) (hM : 1 ≤ M) (y : Int) : Cm (W.setCell ⟨G, 2, none⟩ (.int .i64 y)) base g nm H V C M (some ⟨G, 0, none⟩) uc (sn cf 0 (kL (cf 0) y)) := by
  obtain ⟨h1, h2, h3, h4⟩ := h
  have ob : (Value.slice (some ⟨G, 0, none⟩) M uc).ownBlock = some G := rfl
  have key : ∀ L, Lo W base L → Lo (W.setCell ⟨G, 2, none⟩ (.int .i64 y)) base L := fun L l => ⟨own_setNe l.1 (ownNe l.1 h2 (by decide) ob), own_setNe l.2.1 (ownNe l.2.1 h2 (by decide) ob), own_setNe l.2.2 (ownNe l.2.2 h2 (by decide) ob)⟩
  refine ⟨h1.setOther (rowNe h1 h2 (by decide) ob) _, ?_, sn_at (P := fun L => Lo _ base L ∧ L.mw ≤ 1000000 ∧ L.mn ≤ 1000000 ∧ L.mb ≤ 1000000) ⟨key _ (h3 0 (by omega)).1, (h3 0 (by omega)).2⟩ fun j hj hne => ⟨key _ (h3 j hj).1, (h3 j hj).2⟩, h4⟩
  rw [← ls_set2 hM]
  exact (h2.stored 2 (.int .i64 y)).1
/-- Copies are the same; changed ones are not. -/
theorem cpy_lyE (L : Ly) (a1 : Option Addr) (c1 : Nat) (a2 : Option Addr) (c2 : Nat) (a3 : Option Addr) (c3 : Nat) : lyE (cpy L a1 c1 a2 c2 a3 c3) L ∧ lyE L (cpy L a1 c1 a2 c2 a3 c3) :=
  ⟨⟨⟨rfl, rfl, rfl, ⟨rfl, rfl, rfl, rfl, rfl, rfl, rfl, rfl⟩, rfl, rfl, rfl, rfl⟩, fun _ _ => rfl, fun _ _ => ⟨⟨rfl, rfl⟩, ⟨rfl, rfl⟩, ⟨rfl, rfl⟩, rfl, rfl⟩, fun _ _ => rfl⟩, ⟨⟨rfl, rfl, rfl, ⟨rfl, rfl, rfl, rfl, rfl, rfl, rfl, rfl⟩, rfl, rfl, rfl, rfl⟩, fun _ _ => rfl, fun _ _ => ⟨⟨rfl, rfl⟩, ⟨rfl, rfl⟩, ⟨rfl, rfl⟩, rfl, rfl⟩, fun _ _ => rfl⟩⟩
theorem ne_w {cf lf : Nat → Ly} {kk M cc ucl : Nat} {y H V C : Int} {ua ul : Option Addr} (hk : kk < M) (he : lyE (cf kk) (lf kk)) (hm : 1 ≤ (cf kk).mw) (hy : ¬ y = (cf kk).ws 0) : ¬ ntE ⟨nmX, H, V, C, ua, M, cc, sn cf kk (wtL (cf kk) y)⟩ (mkN H V C M ul ucl lf) ∧ ¬ ntE (mkN H V C M ul ucl lf) ⟨nmX, H, V, C, ua, M, cc, sn cf kk (wtL (cf kk) y)⟩ := by
  have e0 := he.2.1 0 (by omega)
  have em : (cf kk).mw = (lf kk).mw := he.1.2.2.2.2.2.1
  refine ⟨fun h => ?_, fun h => ?_⟩
  · have this : lyE (sn cf kk (wtL (cf kk) y) kk) (lf kk) := h.2.2.2 kk hk
    rw [sn_eq] at this
    have := this.2.1 0 (by show 0 < (cf kk).mw; omega)
    have : y = (lf kk).ws 0 := this
    exact hy (this.trans e0.symm)
  · have this : lyE (lf kk) (sn cf kk (wtL (cf kk) y) kk) := h.2.2.2 kk hk
    rw [sn_eq] at this
    have := this.2.1 0 (by show 0 < (lf kk).mw; omega)
    have : (lf kk).ws 0 = y := this
    exact hy (this.symm.trans e0.symm)
theorem ne_b {cf lf : Nat → Ly} {kk M cc ucl : Nat} {y H V C : Int} {ua ul : Option Addr} (hk : kk < M) (he : lyE (cf kk) (lf kk)) (hm : 1 ≤ (cf kk).mb) (hy : ¬ y = (cf kk).bs 0) : ¬ ntE ⟨nmX, H, V, C, ua, M, cc, sn cf kk (biL (cf kk) y)⟩ (mkN H V C M ul ucl lf) ∧ ¬ ntE (mkN H V C M ul ucl lf) ⟨nmX, H, V, C, ua, M, cc, sn cf kk (biL (cf kk) y)⟩ := by
  have e0 := he.2.2.2 0 (by omega)
  have em : (cf kk).mb = (lf kk).mb := he.1.2.2.2.2.2.2.2
  refine ⟨fun h => ?_, fun h => ?_⟩
  · have this : lyE (sn cf kk (biL (cf kk) y) kk) (lf kk) := h.2.2.2 kk hk
    rw [sn_eq] at this
    have := this.2.2.2 0 (by show 0 < (cf kk).mb; omega)
    have : y = (lf kk).bs 0 := this
    exact hy (this.trans e0.symm)
  · have this : lyE (lf kk) (sn cf kk (biL (cf kk) y) kk) := h.2.2.2 kk hk
    rw [sn_eq] at this
    have := this.2.2.2 0 (by show 0 < (lf kk).mb; omega)
    have : (lf kk).bs 0 = y := this
    exact hy (this.symm.trans e0.symm)
theorem ne_k {cf lf : Nat → Ly} {M cc ucl : Nat} {y H V C : Int} {ua ul : Option Addr} (hk : 0 < M) (he : lyE (cf 0) (lf 0)) (hy : ¬ y = (cf 0).k) : ¬ ntE ⟨nmX, H, V, C, ua, M, cc, sn cf 0 (kL (cf 0) y)⟩ (mkN H V C M ul ucl lf) ∧ ¬ ntE (mkN H V C M ul ucl lf) ⟨nmX, H, V, C, ua, M, cc, sn cf 0 (kL (cf 0) y)⟩ := by
  have e0 : (cf 0).k = (lf 0).k := he.1.2.2.1
  refine ⟨fun h => ?_, fun h => ?_⟩
  · have this : lyE (sn cf 0 (kL (cf 0) y) 0) (lf 0) := h.2.2.2 0 hk
    rw [sn_eq] at this
    have : y = (lf 0).k := this.1.2.2.1
    exact hy (this.trans e0.symm)
  · have this : lyE (lf 0) (sn cf 0 (kL (cf 0) y) 0) := h.2.2.2 0 hk
    rw [sn_eq] at this
    have : (lf 0).k = y := this.1.2.2.1
    exact hy (this.symm.trans e0.symm)
abbrev zL : Ly := ⟨0, 0, 0, 0, 0, 0, 0, 0, 0, 0, 0, 0, none, 0, 0, none, 0, 0, none, 0, 0, fun _ => 0, fun _ _ => 0, fun _ => 0⟩
/-- A layer more. -/
theorem Cm.more {W Y : World} {base g c3 : Nat} {a3 : Option Addr} {nm : ByteArray} {H V C : Int} {M : Nat} {ua : Option Addr} {uc : Nat} {cf : Nat → Ly} (h : Cm W base g nm H V C M ua uc cf) (own : Y.ownsRow base 45 15 (.slice a3 (M + 1) c3) (M + 1) (lyLs cf M ++ lyC zL)) (gr : (W.alloc (lyo zL)).grownBy Y (Value.slice ua M uc).ownBlock) : Cm (Y.setCell ⟨g, 4, none⟩ (.slice a3 (M + 1) c3)) base g nm H V C (M + 1) a3 c3 (sn cf M zL) := by
  obtain ⟨h1, h2, h3, h4⟩ := h
  have B1 : Below W.heap.size W (W.alloc (lyo zL)) := bl_alloc (Below.refl _ _) _
  have R1 := World.rowIs.of_block h1 (B1.block _ h1.lt)
  have O1 := own_bl h2 B1
  have R2 : Y.rowIs g 28 5 (netF nm H V C (.slice ua M uc)) := World.rowIs.of_block R1 (gr.block g R1.lt (fun e => own_ne_row O1 R1 (by decide) g e.symm rfl))
  refine ⟨(R2.set 4 _).congr fun q hq => (by rcases (show q = 0 ∨ q = 1 ∨ q = 2 ∨ q = 3 ∨ q = 4 by omega) with rfl | rfl | rfl | rfl | rfl <;> rfl), ?_, fun j hj => ?_, h4⟩
  · have e : lyLs (sn cf M zL) (M + 1) = lyLs cf M ++ lyC zL := by
      show rl _ M ++ lyC (sn cf M zL M) = _
      rw [sn_eq]
      congr 1
      exact rl_congr M fun j hj => by rw [sn_ne hj]
    rw [e]
    exact own_setHi own R2.lt R2 (by decide)
  · by_cases hjM : j = M
    · subst hjM
      rw [show sn cf j zL j = zL from sn_eq]
      exact ⟨lo_nil _ _ _ _ _ _ _ _ _ _ _ _ _ _, by decide, by decide, by decide⟩
    · rw [show sn cf M zL j = cf j from sn_ne (by omega)]
      exact ⟨(((h3 j (by omega)).1.bl B1).grow O1 (by decide) (by decide) (by decide) gr).hi R2 (by decide) (by decide) (by decide), (h3 j (by omega)).2⟩
end Go.Proofs.Ytkodihmjjiadnaa.Nn
/- NETSPOILT: a twin with one thing changed. -/
namespace Go.Proofs.Ytkodihmjjiadnaa.Nn
open Go.RowKit

theorem big_lst {W : World} {base : Nat} {L : Ly} (h : Lo W base (bigL L)) (h1 : L.mw ≤ 1000000000) (h2 : L.mn ≤ 1000000000) (h3 : L.mb ≤ 1000000000) : Lst W L := by
  refine ⟨fun j hj => ?_, fun j hj => ?_, fun j hj => ?_, by omega, by omega, by omega⟩
  · obtain ⟨g, e, -, -, -, hc⟩ := own_cellsS h.1 (by show 1 ≤ L.mw + 2; omega)
    refine ⟨g, 0, e, ?_⟩
    rw [Nat.zero_add, hc j (by show j < (L.mw + 2) * 1; omega)]
    simp [i8L, hj, show j < L.mw + 2 by omega]
  · obtain ⟨g, e, -, -, -, hc⟩ := own_cellsS h.2.1 (by show 1 ≤ L.mn + 1; omega)
    refine ⟨g, 0, e, ?_⟩
    have key : ∀ c, c < 8 → W.cell? ⟨g, 0 + j * 8 + c, none⟩ = (nmC (L.ns j))[c]? := fun c hc' => by
      rw [Nat.zero_add, hc _ (by show j * 8 + c < (L.mn + 1) * 8; omega), nmL_rl]
      rw [rl_get (s := 8) (fun _ => rfl) (L.mn + 1) (by omega) hc']
      simp [nmC, hj]
    exact ⟨key 0 (by decide), key 1 (by decide), key 2 (by decide), key 3 (by decide), key 4 (by decide), key 5 (by decide), key 6 (by decide), key 7 (by decide)⟩
  · obtain ⟨g, e, -, -, -, hc⟩ := own_cellsS h.2.2 (by show 1 ≤ L.mb + 2; omega)
    refine ⟨g, 0, e, ?_⟩
    rw [Nat.zero_add, hc j (by show j < (L.mb + 2) * 1; omega)]
    simp [i64L, hj, show j < L.mb + 2 by omega]
/-- One cell of one layer set in the list. -/
theorem ls_set1 {cf : Nat → Ly} {M i c : Nat} {u : Value} {L' : Ly} {tl : List Value} (hi : i < M) (hc : c < 15) (hL : (lyC (cf i)).set c u = lyC L') : (lyLs cf M ++ tl).set (i * 15 + c) u = lyLs (sn cf i L') M ++ tl := by
  have hl : (lyLs cf M).length = M * 15 := rl_len (s := 15) (fun _ => rfl) M
  rw [List.set_append_left _ _ (by omega)]
  congr 1
  apply List.ext_getElem?
  intro k
  have hl2 : (lyLs (sn cf i L') M).length = M * 15 := rl_len (s := 15) (fun _ => rfl) M
  rw [List.getElem?_set]
  by_cases hk : k < M * 15
  · have h1 : (lyLs (sn cf i L') M)[k]? = (lyC (sn cf i L' (k / 15)))[k % 15]? := by
      conv => lhs; rw [show k = (k / 15) * 15 + k % 15 by omega]
      exact rl_get (s := 15) (fun _ => rfl) M (by omega) (by omega)
    have h2 : (lyLs cf M)[k]? = (lyC (cf (k / 15)))[k % 15]? := by
      conv => lhs; rw [show k = (k / 15) * 15 + k % 15 by omega]
      exact rl_get (s := 15) (fun _ => rfl) M (by omega) (by omega)
    rw [h1]
    by_cases hj : k / 15 = i
    · rw [show sn cf i L' (k / 15) = L' by unfold sn; rw [if_pos hj], ← hL, List.getElem?_set]
      by_cases he : i * 15 + c = k
      · rw [if_pos he, if_pos (by omega), if_pos (by omega), if_pos (by rw [lyC_len]; exact hc)]
      · rw [if_neg he, if_neg (by omega), h2, hj]
    · rw [show sn cf i L' (k / 15) = cf (k / 15) by unfold sn; rw [if_neg hj], if_neg (by omega), h2]
  · rw [if_neg (by omega), List.getElem?_eq_none (by omega), List.getElem?_eq_none (by omega)]
/-- A twin's memory: its layers, the mark behind them, the lists. -/
def Tm (W : World) (base : Nat) (G cc M : Nat) (cf : Nat → Ly) : Prop := W.ownsRow base 45 15 (.slice (some ⟨G, 0, none⟩) (M + 1) cc) (M + 1) (lyLs cf M ++ lyC mk76) ∧ (∀ j, j < M → Lo W base (bigL (cf j)) ∧ (cf j).mw ≤ 1000001 ∧ (cf j).mn ≤ 1000001 ∧ (cf j).mb ≤ 1000001) ∧ Dis cf M
/-- A layer's lists lie at the front of those of another. -/
def Cov (B L : Ly) : Prop := (B.aw = L.aw ∧ L.mw ≤ B.mw ∧ ∀ j, j < L.mw → B.ws j = L.ws j) ∧ (B.an = L.an ∧ L.mn ≤ B.mn ∧ ∀ j, j < L.mn → ∀ c, c < 8 → B.ns j c = L.ns j c) ∧ (B.ab = L.ab ∧ L.mb ≤ B.mb ∧ ∀ j, j < L.mb → B.bs j = L.bs j) ∧ L.mw ≤ 2000000 ∧ L.mn ≤ 2000000 ∧ L.mb ≤ 2000000 ∧ 1 ≤ B.mw ∧ 1 ≤ B.mn ∧ 1 ≤ B.mb
theorem cov_big {L : Ly} (h1 : L.mw ≤ 1000001) (h2 : L.mn ≤ 1000001) (h3 : L.mb ≤ 1000001) : Cov (bigL L) L := ⟨⟨rfl, by show L.mw ≤ L.mw + 2; omega, fun j hj => if_pos hj⟩, ⟨rfl, by show L.mn ≤ L.mn + 1; omega, fun j hj _ _ => if_pos hj⟩, ⟨rfl, by show L.mb ≤ L.mb + 2; omega, fun j hj => if_pos hj⟩, by omega, by omega, by omega, by show 1 ≤ L.mw + 2; omega, by show 1 ≤ L.mn + 1; omega, by show 1 ≤ L.mb + 2; omega⟩
theorem Cov.lst {W : World} {base : Nat} {B L : Ly} (h : Lo W base B) (c : Cov B L) : Lst W L := by
  obtain ⟨⟨a1, a2, a3⟩, ⟨b1, b2, b3⟩, ⟨d1, d2, d3⟩, m1, m2, m3, -⟩ := c
  refine ⟨fun j hj => ?_, fun j hj => ?_, fun j hj => ?_, by omega, by omega, by omega⟩
  · obtain ⟨g, e, -, -, -, hc⟩ := own_cellsS h.1 (by omega)
    refine ⟨g, 0, a1.symm.trans e, ?_⟩
    rw [Nat.zero_add, hc j (by omega), ← a3 j hj]
    simp [i8L, show j < B.mw by omega]
  · obtain ⟨g, e, -, -, -, hc⟩ := own_cellsS h.2.1 (by omega)
    refine ⟨g, 0, b1.symm.trans e, ?_⟩
    have key : ∀ c, c < 8 → W.cell? ⟨g, 0 + j * 8 + c, none⟩ = (nmC (L.ns j))[c]? := fun c hc' => by
      rw [Nat.zero_add, hc _ (by omega), nmL_rl, rl_get (s := 8) (fun _ => rfl) B.mn (by omega) hc']
      simp only [nmC]
      rw [b3 j hj 0 (by decide), b3 j hj 1 (by decide), b3 j hj 2 (by decide), b3 j hj 3 (by decide), b3 j hj 4 (by decide), b3 j hj 5 (by decide), b3 j hj 6 (by decide), b3 j hj 7 (by decide)]
    exact ⟨key 0 (by decide), key 1 (by decide), key 2 (by decide), key 3 (by decide), key 4 (by decide), key 5 (by decide), key 6 (by decide), key 7 (by decide)⟩
  · obtain ⟨g, e, -, -, -, hc⟩ := own_cellsS h.2.2 (by omega)
    refine ⟨g, 0, d1.symm.trans e, ?_⟩
    rw [Nat.zero_add, hc j (by omega), ← d3 j hj]
    simp [i64L, show j < B.mb by omega]
/-- The network that lies so. -/
def Tf (W : World) (base : Nat) (G cc M : Nat) (lf : Nat → Ly) : Prop := W.ownsRow base 45 15 (.slice (some ⟨G, 0, none⟩) (M + 1) cc) (M + 1) (lyLs lf M ++ lyC mk76) ∧ ∀ j, j < M → ∃ B, Lo W base B ∧ Cov B (lf j)
theorem Tm.tf {W : World} {base G cc M : Nat} {cf : Nat → Ly} (h : Tm W base G cc M cf) : Tf W base G cc M cf := ⟨h.1, fun j hj => by obtain ⟨a, b, c, d⟩ := h.2.1 j hj; exact ⟨_, a, cov_big b c d⟩⟩
theorem Tf.hi {W : World} {base G cc M g j t k : Nat} {lf : Nat → Ly} {u : Value} {F : Nat → Value} (h : Tf W base G cc M lf) (hr : W.rowIs g t k F) (hl : 45 ≠ t) (h8 : 49 ≠ t) (hn : 71 ≠ t) (h6 : 2 ≠ t) : Tf (W.setCell ⟨g, j, none⟩ u) base G cc M lf := ⟨own_setHi h.1 hr.lt hr hl, fun q hq => by obtain ⟨B, l, c⟩ := h.2 q hq; exact ⟨B, l.hi hr h8 hn h6, c⟩⟩
theorem Tf.cells {W : World} {base G cc M i c : Nat} {lf : Nat → Ly} (h : Tf W base G cc M lf) (hi : i < M) (hc : c < 15) : W.cell? ⟨G, i * 15 + c, none⟩ = (lyC (lf i))[c]? := by
  have hl : (lyLs lf M).length = M * 15 := rl_len (s := 15) (fun _ => rfl) M
  rw [h.1.cellAt _ (by omega), List.getElem?_append_left (by omega)]
  exact rl_get (s := 15) (fun _ => rfl) M hi hc
theorem Tf.net {W : World} {base G cc M : Nat} {lf : Nat → Ly} (h : Tf W base G cc M lf) {nm : ByteArray} (hnm : nm.size ≤ 1000) (hM : M ≤ 64) (H V C : Int) : NtW W ⟨nm, H, V, C, some ⟨G, 0, none⟩, M, cc, lf⟩ := by
  refine ⟨fun j hj => ?_, by show M ≤ _; omega, by show nm.size ≤ _; omega⟩
  have hj : j < M := hj
  have key : ∀ c, c < 15 → W.cell? ⟨G, 0 + j * 15 + c, none⟩ = (lyC (lf j))[c]? := fun c hc => by rw [Nat.zero_add]; exact h.cells hj hc
  exact ⟨G, 0, rfl, ⟨key 0 (by decide), key 1 (by decide), key 2 (by decide), key 3 (by decide), key 4 (by decide), key 5 (by decide), key 6 (by decide), key 7 (by decide), key 8 (by decide), key 9 (by decide), key 10 (by decide), key 11 (by decide), key 12 (by decide), key 13 (by decide), key 14 (by decide)⟩, by obtain ⟨B, l, c⟩ := h.2 j hj; exact c.lst l⟩
theorem Tm.keep {W X : World} {base G cc M : Nat} {cf : Nat → Ly} (h : Tm W base G cc M cf) (hb : Below W.heap.size W X) : Tm X base G cc M cf := ⟨own_bl h.1 hb, fun j hj => ⟨(h.2.1 j hj).1.bl hb, (h.2.1 j hj).2⟩, h.2.2⟩
theorem Tf.keep {W X : World} {base G cc M : Nat} {lf : Nat → Ly} (h : Tf W base G cc M lf) (hb : Below W.heap.size W X) : Tf X base G cc M lf := ⟨own_bl h.1 hb, fun j hj => by obtain ⟨B, l, c⟩ := h.2 j hj; exact ⟨B, l.bl hb, c⟩⟩
/-- A number of a layer is set: the lists are as they were. -/
theorem Tf.cell {W : World} {base G cc M i c : Nat} {cf : Nat → Ly} {u : Value} {L' : Ly} (h : Tf W base G cc M cf) (hi : i < M) (hc : c < 15) (hL : (lyC (cf i)).set c u = lyC L') (hl : ∀ B, Cov B (cf i) → Cov B L') : Tf (W.setCell ⟨G, i * 15 + c, none⟩ u) base G cc M (sn cf i L') := by
  obtain ⟨h1, h2⟩ := h
  have ob : (Value.slice (some ⟨G, 0, none⟩) (M + 1) cc).ownBlock = some G := rfl
  have key : ∀ j, j < M → ∃ B, Lo (W.setCell ⟨G, i * 15 + c, none⟩ u) base B ∧ Cov B (cf j) := fun j hj => by
    obtain ⟨B, l, cv⟩ := h2 j hj
    exact ⟨B, ⟨own_setNe l.1 (ownNe l.1 h1 (by decide) ob), own_setNe l.2.1 (ownNe l.2.1 h1 (by decide) ob), own_setNe l.2.2 (ownNe l.2.2 h1 (by decide) ob)⟩, cv⟩
  refine ⟨?_, sn_at (P := fun L => ∃ B, Lo (W.setCell ⟨G, i * 15 + c, none⟩ u) base B ∧ Cov B L) (by obtain ⟨B, l, cv⟩ := key i hi; exact ⟨B, l, hl B cv⟩) fun j hj _ => key j hj⟩
  rw [← ls_set1 hi hc hL]
  exact (h1.stored (i * 15 + c) u).1
theorem sn_sn {cf : Nat → Ly} {i : Nat} {L L' : Ly} : sn (sn cf i L) i L' = sn cf i L' := by
  funext j
  unfold sn
  by_cases h : j = i
  · rw [if_pos h, if_pos h]
  · rw [if_neg h, if_neg h, if_neg h]
theorem sn_id {cf : Nat → Ly} {i : Nat} : sn cf i (cf i) = cf := by
  funext j
  unfold sn
  by_cases h : j = i
  · rw [if_pos h, h]
  · rw [if_neg h]
/-- All that stands when spoilt begins to part its cases. -/
def Sb (W w0 : World) (g6 g9 G cc M i : Nat) (nm : ByteArray) (H V C : Int) (cf : Nat → Ly) : Prop := Tm W w0.heap.size G cc M cf ∧ W.rowIs g9 28 5 (netF nm H V C (.slice (some ⟨G, 0, none⟩) M cc)) ∧ W.rowIs g6 28 5 (netF ⟨#[]⟩ 0 0 0 (.slice none 0 0)) ∧ w0.heap.size ≤ g6 ∧ w0.heap.size ≤ g9 ∧ ¬ g6 = g9 ∧ i < M ∧ M ≤ 4 ∧ Below w0.heap.size w0 W
/-- What spoilt has made when it returns: E, b. -/
def Sr (X w0 : World) (g6 G cc M i : Nat) (nm : ByteArray) (H V C : Int) (cf : Nat → Ly) (la : Bool) (E : Int) (b : Bool) : Prop := X.rowIs g6 28 5 (netF nm H V C (.slice (some ⟨G, 0, none⟩) M cc)) ∧ (∃ L2, Tf X w0.heap.size G cc M (sn cf i L2) ∧ (b = true → ∀ S, faE (cf i) S = 0 → SpOk S → S.la = la → S.h ≤ 14 → faE L2 S = E ∧ ¬ E = 0) ∧ L2.mw ≤ (cf i).mw + 1 ∧ L2.mn ≤ (cf i).mn ∧ L2.mb ≤ (cf i).mb + 1) ∧ Below w0.heap.size w0 X
/-- The answer is laid into its place. -/
theorem sr_end {W w0 : World} {g6 G cc M i : Nat} {nm : ByteArray} {H V C : Int} {cf : Nat → Ly} {la : Bool} {E : Int} {b : Bool} {L2 : Ly} {F : Nat → Value} (hr : W.rowIs g6 28 5 F) (hb : w0.heap.size ≤ g6) (hf : Tf W w0.heap.size G cc M (sn cf i L2)) (he : b = true → ∀ S, faE (cf i) S = 0 → SpOk S → S.la = la → S.h ≤ 14 → faE L2 S = E ∧ ¬ E = 0) (bw : Below w0.heap.size w0 W) (hl : L2.mw ≤ (cf i).mw + 1 ∧ L2.mn ≤ (cf i).mn ∧ L2.mb ≤ (cf i).mb + 1 := by exact ⟨by first | exact Nat.le_refl _ | exact Nat.le_succ _, Nat.le_refl _, by first | exact Nat.le_refl _ | exact Nat.le_succ _⟩) :
    Sr (((((W.setCell ⟨g6, 0, none⟩ (.string nm)).setCell ⟨g6, 1, none⟩ (.int .i64 H)).setCell ⟨g6, 2, none⟩ (.int .i64 V)).setCell ⟨g6, 3, none⟩ (.int .i64 C)).setCell ⟨g6, 4, none⟩ (.slice (some ⟨G, 0, none⟩) M cc)) w0 g6 G cc M i nm H V C cf la E b := by
  have r1 := hr.set 0 (.string nm)
  have r2 := r1.set 1 (.int .i64 H)
  have r3 := r2.set 2 (.int .i64 V)
  have r4 := r3.set 3 (.int .i64 C)
  refine ⟨netF_allN hr, ⟨L2, ?_, he, hl⟩, bl_set (bl_set (bl_set (bl_set (bl_set bw hb _) hb _) hb _) hb _) hb _⟩
  exact ((((hf.hi hr (by decide) (by decide) (by decide) (by decide)).hi r1 (by decide) (by decide) (by decide) (by decide)).hi r2 (by decide) (by decide) (by decide) (by decide)).hi r3 (by decide) (by decide) (by decide) (by decide)).hi r4 (by decide) (by decide) (by decide) (by decide)
theorem Tf.nl {W : World} {base G cc M j : Nat} {lf : Nat → Ly} (h : Tf W base G cc M lf) (hj : j < M) : Nl (lf j) := by
  obtain ⟨B, l, ⟨a1, -⟩, ⟨b1, -⟩, ⟨d1, -⟩, -, -, -, n1, n2, n3⟩ := h.2 j hj
  obtain ⟨g1, e1, -⟩ := own_cellsS l.1 n1
  obtain ⟨g2, e2, -⟩ := own_cellsS l.2.1 n2
  obtain ⟨g3, e3, -⟩ := own_cellsS l.2.2 n3
  refine ⟨fun e => ?_, fun e => ?_, fun e => ?_⟩
  · rw [← a1, e1] at e; cases e
  · rw [← b1, e2] at e; cases e
  · rw [← d1, e3] at e; cases e
end Go.Proofs.Ytkodihmjjiadnaa.Nn
/- NETWORKS THAT ARE MADE: the walk's pieces: a window and a layer begun. -/
namespace Go.Proofs.Ytkodihmjjiadnaa.Nn
open Go.RowKit

/-- The code from region n on, within its sequence; a block by its number. -/
def isReg (n : Nat) : Code → Bool
  | .region id _ _ => id == n
  | _ => false
def isBlk (n : Nat) : Code → Bool
  | .block id _ => id == n
  | _ => false
def fromP (p : Code → Bool) : Code → Option Code
  | .region id ops b => if p (.region id ops b) then some (.region id ops b) else none
  | .seq a b => if p a then some (.seq a b) else match fromP p a with
    | some c => some c
    | none => fromP p b
  | .block _ c => fromP p c
  | .scope c => fromP p c
  | .loop c => fromP p c
  | .cond _ a b => match fromP p a with
    | some c => some c
    | none => fromP p b
  | _ => none
theorem kgo {P : Program} {c : Code} {Q : Exit → Act → World → Prop} {K : Act → World → Prop} {a : Act} {w : World} (h : ∀ a w, c.wp P Q a w → K a w) (h2 : c.wp P Q a w) : K a w := h _ _ h2
def blockOf (n : Nat) : Code → Option Code
  | .seq a b => match blockOf n a with
    | some c => some c
    | none => blockOf n b
  | .block id c => if id = n then some (.block id c) else blockOf n c
  | .scope c => blockOf n c
  | .loop c => blockOf n c
  | .cond _ a b => match blockOf n a with
    | some c => some c
    | none => blockOf n b
  | _ => none
/-- What pick answers, wherever nothing old has turned. -/
abbrev PkC (w : World) (v : Value) (i n y : Int) : Prop := ∀ W, Below w.heap.size w W → Calls Try.prog 20 #[v, .int .i64 i, .int .i64 n] W fun e w' => e = .returned (.int .i64 y) ∧ w' = W
theorem meet_ofD {J K : Act → World → Prop} {Q : Exit → Act → World → Prop} {a : Act} {w : World} (hK : ∀ a' w', Met J a' w' → K a' w') (h : Met J a w) : Exit.then K Q Exit.normal a w := hK _ _ h
theorem kpD8 {V Y : World} {b : Nat} {h v : Int} (h0 : V.cell? ⟨b, 0, none⟩ = some (.int .i64 h)) (h1 : V.cell? ⟨b, 1, none⟩ = some (.int .i64 v)) (hb : Below V.heap.size V Y) : Y.cell? ⟨b, 0, none⟩ = some (.int .i64 h) ∧ Y.cell? ⟨b, 1, none⟩ = some (.int .i64 v) := ⟨keepc hb h0, keepc hb h1⟩
theorem kpD9 {V Y : World} {b : Nat} {r s y x : Int} (h0 : V.cell? ⟨b, 0, none⟩ = some (.int .i64 r)) (h1 : V.cell? ⟨b, 1, none⟩ = some (.int .i64 s)) (h2 : V.cell? ⟨b, 2, none⟩ = some (.int .i64 y)) (h3 : V.cell? ⟨b, 3, none⟩ = some (.int .i64 x)) (h4 : V.cell? ⟨b, 4, none⟩ = some (.int .i64 0)) (h5 : V.cell? ⟨b, 5, none⟩ = some (.int .i64 0)) (h6 : V.cell? ⟨b, 6, none⟩ = some (.int .i64 0)) (h7 : V.cell? ⟨b, 7, none⟩ = some (.int .i64 0)) (hb : Below V.heap.size V Y) :
    Y.cell? ⟨b, 0, none⟩ = some (.int .i64 r) ∧ Y.cell? ⟨b, 1, none⟩ = some (.int .i64 s) ∧ Y.cell? ⟨b, 2, none⟩ = some (.int .i64 y) ∧ Y.cell? ⟨b, 3, none⟩ = some (.int .i64 x) ∧ Y.cell? ⟨b, 4, none⟩ = some (.int .i64 0) ∧ Y.cell? ⟨b, 5, none⟩ = some (.int .i64 0) ∧ Y.cell? ⟨b, 6, none⟩ = some (.int .i64 0) ∧ Y.cell? ⟨b, 7, none⟩ = some (.int .i64 0) := ⟨keepc hb h0, keepc hb h1, keepc hb h2, keepc hb h3, keepc hb h4, keepc hb h5, keepc hb h6, keepc hb h7⟩
noncomputable def cd8 : Code := (Try.f7.body.bind (regionOf 8)).getD .skip
noncomputable def cd9 : Code := (Try.f7.body.bind (regionOf 9)).getD .skip
attribute [local go_sem ↓] Go.wp_at_zero Go.wp_at_succ
set_option maxHeartbeats 64000000 in
set_option maxRecDepth 100000 in
theorem md_r8 (u1 u2 u3 u5 u6 u8 u9 u10 u11 u12 u13 u14 u15 u16 u17 u18 u19 u20 u21 u22 u23 u24 u25 u26 u27 u28 u29 u30 u31 u32 u33 u34 u35 u36 u37 u38 u39 u40 u41 u42 u43 u44 u45 u46 u47 u48 u49 u50 u51 u52 u53 u54 u55 u56 u57 u58 u59 u60 u61 u62 u63 u64 u65 u66 u67 u68 u69 u70 u71 u72 u73 u74 u75 u76 u77 u78 u79 u80 u81 u82 u83 u84 u85 u86 u87 u88 u89 u90 u91 u92 u93 u94 u95 u96 u97 u98 u99 u100 u101 u102 u103 u104 u105 u106 u107 u108 u109 u110 u111 u112 u113 u114 u115 u116 u117 u118 u119 u120 u121 u122 u123 u124 u125 u126 u127 u128 u129 u130 u131 u132 u133 u134 u135 u136 u137 u138 u139 u140 u141 u142 u143 u144 u145 u146 u147 u148 u149 u150 u151 u152 u153 u154 u155 u156 u157 u158 u159 u160 u161 u162 u163 u164 u165 u166 u167 u168 u169 u170 u171 u172 u173 u174 u175 u176 u177 u178 u179 u180 u181 u182 u183 u184 u185 u186 u187 u188 u189 u190 u191 u192 u193 u194 u195 u196 u197 u198 u199 u200 u201 u202 u203 u204 u205 u206 u207 u208 u209 u210 u211 u212 u213 u214 : Value) (ao : Option Addr) (m cap b : Nat) (p h v y1 y2 y3 y4 : Int) (w wr : World) (Q : Exit → Act → World → Prop)
    (C1 : Hid (PkC w (.slice ao m cap) p h y1)) (C2 : Hid (PkC w (.slice ao m cap) (p + 1) v y2)) (C3 : Hid (PkC w (.slice ao m cap) (p + 2) 3 y3)) (C4 : Hid (PkC w (.slice ao m cap) (p + 3) 3 y4)) (HBX : Hid (Below w.heap.size w wr)) (s0 : wr.cell? ⟨b + 1 + 1, 0, none⟩ = some (.int .i64 h)) (s1 : wr.cell? ⟨b + 1 + 1, 1, none⟩ = some (.int .i64 v)) (wp1 : IntKind.i64.wrap (p + 1) = p + 1) (wp2 : IntKind.i64.wrap (p + 2) = p + 2) (wp3 : IntKind.i64.wrap (p + 3) = p + 3) (a1 : IntKind.i64.wrap (1 + y1) = 1 + y1) (a2 : IntKind.i64.wrap (1 + y2) = 1 + y2) (a3 : IntKind.i64.wrap (1 + y3) = 1 + y3) (a4 : IntKind.i64.wrap (1 + y4) = 1 + y4)
    (hQ : Hid (∀ (X : World) (g8 : Nat) (v37 v38 v39 v40 v41 v42 v43 v44 v45 v46 v47 v48 v49 v50 v51 v52 v53 v54 v55 v56 v57 v58 v59 v60 : Value), wr.heap.size ≤ g8 → X.rowIs g8 40 8 (wnF (1 + y1) (1 + y2) (1 + y3) (1 + y4)) → Below wr.heap.size wr X → Q .normal ⟨#[.slice ao m cap, u1, u2, u3, .pointer (some ⟨b + 1 + 1, 0, none⟩), u5, u6, .int .i64 p, .pointer (some ⟨g8, 0, none⟩), u9, u10, u11, u12, u13, u14, u15, u16, u17, u18, u19, u20, u21, u22, u23, u24, u25, u26, u27, u28, u29, u30, u31, u32, u33, u34, u35, u36, v37, v38, v39, v40, v41, v42, v43, v44, v45, v46, v47, v48, v49, v50, v51, v52, v53, v54, v55, v56, v57, v58, v59, v60, u61, u62, u63, u64, u65, u66, u67, u68, u69, u70, u71, u72, u73, u74, u75, u76, u77, u78, u79, u80, u81, u82, u83, u84, u85, u86, u87, u88, u89, u90, u91, u92, u93, u94, u95, u96, u97, u98, u99, u100, u101, u102, u103, u104, u105, u106, u107, u108, u109, u110, u111, u112, u113, u114, u115, u116, u117, u118, u119, u120, u121, u122, u123, u124, u125, u126, u127, u128, u129, u130, u131, u132, u133, u134, u135, u136, u137, u138, u139, u140, u141, u142, u143, u144, u145, u146, u147, u148, u149, u150, u151, u152, u153, u154, u155, u156, u157, u158, u159, u160, u161, u162, u163, u164, u165, u166, u167, u168, u169, u170, u171, u172, u173, u174, u175, u176, u177, u178, u179, u180, u181, u182, u183, u184, u185, u186, u187, u188, u189, u190, u191, u192, u193, u194, u195, u196, u197, u198, u199, u200, u201, u202, u203, u204, u205, u206, u207, u208, u209, u210, u211, u212, u213, u214], []⟩ X)) :
    Code.wp Try.prog cd8 Q ⟨#[.slice ao m cap, u1, u2, u3, .pointer (some ⟨b + 1 + 1, 0, none⟩), u5, u6, .int .i64 p, u8, u9, u10, u11, u12, u13, u14, u15, u16, u17, u18, u19, u20, u21, u22, u23, u24, u25, u26, u27, u28, u29, u30, u31, u32, u33, u34, u35, u36, u37, u38, u39, u40, u41, u42, u43, u44, u45, u46, u47, u48, u49, u50, u51, u52, u53, u54, u55, u56, u57, u58, u59, u60, u61, u62, u63, u64, u65, u66, u67, u68, u69, u70, u71, u72, u73, u74, u75, u76, u77, u78, u79, u80, u81, u82, u83, u84, u85, u86, u87, u88, u89, u90, u91, u92, u93, u94, u95, u96, u97, u98, u99, u100, u101, u102, u103, u104, u105, u106, u107, u108, u109, u110, u111, u112, u113, u114, u115, u116, u117, u118, u119, u120, u121, u122, u123, u124, u125, u126, u127, u128, u129, u130, u131, u132, u133, u134, u135, u136, u137, u138, u139, u140, u141, u142, u143, u144, u145, u146, u147, u148, u149, u150, u151, u152, u153, u154, u155, u156, u157, u158, u159, u160, u161, u162, u163, u164, u165, u166, u167, u168, u169, u170, u171, u172, u173, u174, u175, u176, u177, u178, u179, u180, u181, u182, u183, u184, u185, u186, u187, u188, u189, u190, u191, u192, u193, u194, u195, u196, u197, u198, u199, u200, u201, u202, u203, u204, u205, u206, u207, u208, u209, u210, u211, u212, u213, u214], []⟩ wr := by
  conv => arg 2; whnf
  refine wp_region_noPanic ?_
  go_region_held3 (fun Y => Y.cell? ⟨b + 1 + 1, 0, none⟩ = some (.int .i64 h) ∧ Y.cell? ⟨b + 1 + 1, 1, none⟩ = some (.int .i64 v))
    (((try dsimp only); (with_reducible refine kpD8 (V := wr) s0 s1 ?_); repeat (first | (with_reducible exact Below.refl _ _) | (with_reducible refine bl_alloc ?_ _) | (with_reducible refine Below.drew ?_) | (with_reducible refine bl_drewN ?_ _) | (with_reducible refine bl_set ?_ (by omega) _) | (with_reducible refine bl_step ?_ (by assumption)))))
    (first
      | (go_at_call 20; with_reducible refine (C1.out _ (bl_step HBX.out (by repeat (first | (with_reducible exact Below.refl _ _) | (with_reducible refine bl_alloc ?_ _) | (with_reducible refine Below.drew ?_) | (with_reducible refine bl_drewN ?_ _) | (with_reducible refine bl_set ?_ (by omega) _) | (with_reducible refine bl_step ?_ (by assumption)))))).mono ?_; rintro e z1 ⟨rfl, rfl⟩)
      | (go_at_call 20; with_reducible refine (C2.out _ (bl_step HBX.out (by repeat (first | (with_reducible exact Below.refl _ _) | (with_reducible refine bl_alloc ?_ _) | (with_reducible refine Below.drew ?_) | (with_reducible refine bl_drewN ?_ _) | (with_reducible refine bl_set ?_ (by omega) _) | (with_reducible refine bl_step ?_ (by assumption)))))).mono ?_; rintro e z2 ⟨rfl, rfl⟩)
      | (go_at_call 20; with_reducible refine (C3.out _ (bl_step HBX.out (by repeat (first | (with_reducible exact Below.refl _ _) | (with_reducible refine bl_alloc ?_ _) | (with_reducible refine Below.drew ?_) | (with_reducible refine bl_drewN ?_ _) | (with_reducible refine bl_set ?_ (by omega) _) | (with_reducible refine bl_step ?_ (by assumption)))))).mono ?_; rintro e z3 ⟨rfl, rfl⟩)
      | (go_at_call 20; with_reducible refine (C4.out _ (bl_step HBX.out (by repeat (first | (with_reducible exact Below.refl _ _) | (with_reducible refine bl_alloc ?_ _) | (with_reducible refine Below.drew ?_) | (with_reducible refine bl_drewN ?_ _) | (with_reducible refine bl_set ?_ (by omega) _) | (with_reducible refine bl_step ?_ (by assumption)))))).mono ?_; rintro e z4 ⟨rfl, rfl⟩))
  all_goals
    refine NoPanic.normal (hQ.out _ wr.heap.size _ _ _ _ _ _ _ _ _ _ _ _ _ _ _ _ _ _ _ _ _ _ _ _ (Nat.le_refl _) (World.rowIs.of_block (wn_newF wr _ _ _ _ _) rfl) ?_)
    repeat (first | (with_reducible exact Below.refl _ _) | (with_reducible refine bl_alloc ?_ _) | (with_reducible refine Below.drew ?_) | (with_reducible refine bl_drewN ?_ _) | (with_reducible refine bl_set ?_ (by omega) _) | (with_reducible refine bl_step ?_ (by assumption)))
attribute [local go_sem ↓] Go.wp_at_zero Go.wp_at_succ
set_option maxHeartbeats 64000000 in
set_option maxRecDepth 100000 in
theorem md_r9 (u1 u2 u3 u4 u5 u6 u9 u10 u11 u12 u13 u14 u15 u16 u17 u18 u19 u20 u21 u22 u23 u24 u25 u26 u27 u28 u29 u30 u31 u32 u33 u34 u35 u36 u37 u38 u39 u40 u41 u42 u43 u44 u45 u46 u47 u48 u49 u50 u51 u52 u53 u54 u55 u56 u57 u58 u59 u60 u61 u62 u63 u64 u65 u66 u67 u68 u69 u70 u71 u72 u73 u74 u75 u76 u77 u78 u79 u80 u81 u82 u83 u84 u85 u86 u87 u88 u89 u90 u91 u92 u93 u94 u95 u96 u97 u98 u99 u100 u101 u102 u103 u104 u105 u106 u107 u108 u109 u110 u111 u112 u113 u114 u115 u116 u117 u118 u119 u120 u121 u122 u123 u124 u125 u126 u127 u128 u129 u130 u131 u132 u133 u134 u135 u136 u137 u138 u139 u140 u141 u142 u143 u144 u145 u146 u147 u148 u149 u150 u151 u152 u153 u154 u155 u156 u157 u158 u159 u160 u161 u162 u163 u164 u165 u166 u167 u168 u169 u170 u171 u172 u173 u174 u175 u176 u177 u178 u179 u180 u181 u182 u183 u184 u185 u186 u187 u188 u189 u190 u191 u192 u193 u194 u195 u196 u197 u198 u199 u200 u201 u202 u203 u204 u205 u206 u207 u208 u209 u210 u211 u212 u213 u214 : Value) (ao : Option Addr) (m cap g8 : Nat) (p r s sy sx y5 : Int) (w wc : World) (Q : Exit → Act → World → Prop)
    (C5 : Hid (PkC w (.slice ao m cap) (p + 4) 3 y5)) (HBX : Hid (Below w.heap.size w wc)) (HW8 : Hid (wc.rowIs g8 40 8 (wnF r s sy sx))) (wp4 : IntKind.i64.wrap (p + 4) = p + 4) (a5 : IntKind.i64.wrap (1 + y5) = 1 + y5)
    (hQ : Hid (∀ (X : World) (g9 : Nat) (v61 v62 v63 v64 v65 v66 v67 : Value), wc.heap.size ≤ g9 → X.rowIs g9 45 15 (lyf (L0 (1 + y5) r s sy sx)) → Below wc.heap.size wc X → Q .normal ⟨#[.slice ao m cap, u1, u2, u3, u4, u5, u6, .int .i64 p, .pointer (some ⟨g8, 0, none⟩), .pointer (some ⟨g9, 0, none⟩), u10, u11, u12, u13, u14, u15, u16, u17, u18, u19, u20, u21, u22, u23, u24, u25, u26, u27, u28, u29, u30, u31, u32, u33, u34, u35, u36, u37, u38, u39, u40, u41, u42, u43, u44, u45, u46, u47, u48, u49, u50, u51, u52, u53, u54, u55, u56, u57, u58, u59, u60, v61, v62, v63, v64, v65, v66, v67, u68, u69, u70, u71, u72, u73, u74, u75, u76, u77, u78, u79, u80, u81, u82, u83, u84, u85, u86, u87, u88, u89, u90, u91, u92, u93, u94, u95, u96, u97, u98, u99, u100, u101, u102, u103, u104, u105, u106, u107, u108, u109, u110, u111, u112, u113, u114, u115, u116, u117, u118, u119, u120, u121, u122, u123, u124, u125, u126, u127, u128, u129, u130, u131, u132, u133, u134, u135, u136, u137, u138, u139, u140, u141, u142, u143, u144, u145, u146, u147, u148, u149, u150, u151, u152, u153, u154, u155, u156, u157, u158, u159, u160, u161, u162, u163, u164, u165, u166, u167, u168, u169, u170, u171, u172, u173, u174, u175, u176, u177, u178, u179, u180, u181, u182, u183, u184, u185, u186, u187, u188, u189, u190, u191, u192, u193, u194, u195, u196, u197, u198, u199, u200, u201, u202, u203, u204, u205, u206, u207, u208, u209, u210, u211, u212, u213, u214], []⟩ X)) :
    Code.wp Try.prog cd9 Q ⟨#[.slice ao m cap, u1, u2, u3, u4, u5, u6, .int .i64 p, .pointer (some ⟨g8, 0, none⟩), u9, u10, u11, u12, u13, u14, u15, u16, u17, u18, u19, u20, u21, u22, u23, u24, u25, u26, u27, u28, u29, u30, u31, u32, u33, u34, u35, u36, u37, u38, u39, u40, u41, u42, u43, u44, u45, u46, u47, u48, u49, u50, u51, u52, u53, u54, u55, u56, u57, u58, u59, u60, u61, u62, u63, u64, u65, u66, u67, u68, u69, u70, u71, u72, u73, u74, u75, u76, u77, u78, u79, u80, u81, u82, u83, u84, u85, u86, u87, u88, u89, u90, u91, u92, u93, u94, u95, u96, u97, u98, u99, u100, u101, u102, u103, u104, u105, u106, u107, u108, u109, u110, u111, u112, u113, u114, u115, u116, u117, u118, u119, u120, u121, u122, u123, u124, u125, u126, u127, u128, u129, u130, u131, u132, u133, u134, u135, u136, u137, u138, u139, u140, u141, u142, u143, u144, u145, u146, u147, u148, u149, u150, u151, u152, u153, u154, u155, u156, u157, u158, u159, u160, u161, u162, u163, u164, u165, u166, u167, u168, u169, u170, u171, u172, u173, u174, u175, u176, u177, u178, u179, u180, u181, u182, u183, u184, u185, u186, u187, u188, u189, u190, u191, u192, u193, u194, u195, u196, u197, u198, u199, u200, u201, u202, u203, u204, u205, u206, u207, u208, u209, u210, u211, u212, u213, u214], []⟩ wc := by
  conv => arg 2; whnf
  refine wp_region_noPanic ?_
  have q0 : wc.cell? ⟨g8, 0, none⟩ = some (.int .i64 r) := HW8.out.cell (i := 0) (by decide)
  have q1 : wc.cell? ⟨g8, 1, none⟩ = some (.int .i64 s) := HW8.out.cell (i := 1) (by decide)
  have q2 : wc.cell? ⟨g8, 2, none⟩ = some (.int .i64 sy) := HW8.out.cell (i := 2) (by decide)
  have q3 : wc.cell? ⟨g8, 3, none⟩ = some (.int .i64 sx) := HW8.out.cell (i := 3) (by decide)
  have q4 : wc.cell? ⟨g8, 4, none⟩ = some (.int .i64 0) := HW8.out.cell (i := 4) (by decide)
  have q5 : wc.cell? ⟨g8, 5, none⟩ = some (.int .i64 0) := HW8.out.cell (i := 5) (by decide)
  have q6 : wc.cell? ⟨g8, 6, none⟩ = some (.int .i64 0) := HW8.out.cell (i := 6) (by decide)
  have q7 : wc.cell? ⟨g8, 7, none⟩ = some (.int .i64 0) := HW8.out.cell (i := 7) (by decide)
  go_region_held3 (fun Y => Y.cell? ⟨g8, 0, none⟩ = some (.int .i64 r) ∧ Y.cell? ⟨g8, 1, none⟩ = some (.int .i64 s) ∧ Y.cell? ⟨g8, 2, none⟩ = some (.int .i64 sy) ∧ Y.cell? ⟨g8, 3, none⟩ = some (.int .i64 sx) ∧ Y.cell? ⟨g8, 4, none⟩ = some (.int .i64 0) ∧ Y.cell? ⟨g8, 5, none⟩ = some (.int .i64 0) ∧ Y.cell? ⟨g8, 6, none⟩ = some (.int .i64 0) ∧ Y.cell? ⟨g8, 7, none⟩ = some (.int .i64 0))
    (((try dsimp only); (with_reducible refine kpD9 (V := wc) q0 q1 q2 q3 q4 q5 q6 q7 ?_); repeat (first | (with_reducible exact Below.refl _ _) | (with_reducible refine bl_alloc ?_ _) | (with_reducible refine Below.drew ?_) | (with_reducible refine bl_drewN ?_ _) | (with_reducible refine bl_set ?_ (by omega) _) | (with_reducible refine bl_step ?_ (by assumption)))))
    (first | (go_at_call 20; with_reducible refine (C5.out _ (bl_step HBX.out (by repeat (first | (with_reducible exact Below.refl _ _) | (with_reducible refine bl_alloc ?_ _) | (with_reducible refine Below.drew ?_) | (with_reducible refine bl_drewN ?_ _) | (with_reducible refine bl_set ?_ (by omega) _) | (with_reducible refine bl_step ?_ (by assumption)))))).mono ?_; rintro e z5 ⟨rfl, rfl⟩))
  all_goals
    refine NoPanic.normal (hQ.out _ wc.heap.size _ _ _ _ _ _ _ (Nat.le_refl _) (lyf_newD wc (L0 (1 + y5) r s sy sx)) ?_)
    repeat (first | (with_reducible exact Below.refl _ _) | (with_reducible refine bl_alloc ?_ _) | (with_reducible refine Below.drew ?_) | (with_reducible refine bl_drewN ?_ _) | (with_reducible refine bl_set ?_ (by omega) _) | (with_reducible refine bl_step ?_ (by assumption)))
end Go.Proofs.Ytkodihmjjiadnaa.Nn
/- NETSPOILT: spoilt's cases: one number of a layer. -/
namespace Go.Proofs.Ytkodihmjjiadnaa.Nn
open Go.RowKit

noncomputable def csB0 : Code := (Try.f8.body.bind (blockOf 0)).getD .skip
attribute [local go_sem ↓] Go.wp_at_zero Go.wp_at_succ
set_option maxHeartbeats 64000000 in
set_option maxRecDepth 100000 in
theorem so_0 (u0 u1 u2 u3 u4 u5 u7 u8 u13 u14 u15 u16 u17 u18 u19 u20 u21 u22 u23 u24 u25 u26 u27 u28 u29 u31 u32 u33 u34 u35 u36 u37 u38 u39 u40 u41 u42 u43 u44 u45 u46 u47 u48 u49 u50 u51 u52 u53 u54 u55 u56 u57 u58 u59 u60 u61 u62 u63 u64 u65 u66 u67 u68 u69 u70 u71 u72 u73 u74 u75 u76 u77 u78 u79 u80 u81 u82 u83 u84 u85 u86 u87 u88 u89 u90 u91 u92 u93 u94 u95 u96 u97 u98 u99 u100 u101 u102 u103 u104 u105 u106 u107 u108 u109 u110 u111 u112 u113 u114 u115 u116 u117 u118 u119 u120 u121 u122 u123 u124 u125 u126 u127 u128 u129 u130 u131 u132 u133 u134 u135 u136 u137 u138 u139 u140 u141 u142 u143 u144 u145 u146 u147 u148 u149 u150 u151 u152 u153 u154 u155 u156 u157 u158 u159 u160 u161 u162 u163 u164 u165 u166 u167 u168 u169 u170 u171 u172 u173 u174 u175 u176 u177 u178 u179 u180 u181 u182 u183 u184 u185 u186 u187 : Value) (g6 g9 G cc M i : Nat) (nm : ByteArray) (H V C : Int) (cf : Nat → Ly) (la pb : Bool) (w0 X0 : World) (Q : Exit → Act → World → Prop)
    (HSB : Hid (Sb X0 w0 g6 g9 G cc M i nm H V C cf)) (_HPB : Hid (((cf i).kd == 3) = pb)) 
    (hQ : Hid (∀ (X : World) (E : Int) (b : Bool) (v31 v32 v33 v34 v35 v36 v37 v38 v39 v40 v41 v42 v43 v44 v45 v46 v47 v48 v49 v50 v51 v52 v53 v54 v55 v56 v57 v58 v59 v60 v61 v62 v63 v64 v65 v66 v67 v68 v69 v70 v71 v72 v73 v74 v75 v76 v77 v78 v79 v80 v81 v82 v83 v84 v85 v86 v87 v88 v89 v90 v91 v92 v93 v94 v95 v96 v97 v98 v99 v100 v101 v102 v103 v104 v105 v106 v107 v108 v109 v110 v111 v112 v113 v114 v115 v116 v117 v118 v119 v120 v121 v122 v123 v124 v125 v126 v127 v128 v129 v130 v131 v132 v133 v134 v135 v136 v137 v138 v139 v140 v141 v142 v143 v144 v145 v146 v147 v148 v149 v150 v151 v152 v153 v154 v155 v156 v157 v158 v159 v160 v161 v162 v163 v164 v165 v166 v167 v168 v169 v170 v171 v172 v173 v174 v175 v176 v177 v178 v179 v180 v181 v182 v183 v184 v185 v186 v187 : Value), Sr X w0 g6 G cc M i nm H V C cf la E b → Q .ret ⟨#[u0, u1, u2, u3, u4, u5, .pointer (some ⟨g6, 0, none⟩), .int .i64 E, .bool b, .pointer (some ⟨g9, 0, none⟩), .pointer (some ⟨G, i * 15, none⟩), .bool pb, .bool la, u13, u14, u15, u16, u17, u18, u19, u20, u21, u22, u23, u24, u25, u26, u27, u28, u29, .int .i64 0, v31, v32, v33, v34, v35, v36, v37, v38, v39, v40, v41, v42, v43, v44, v45, v46, v47, v48, v49, v50, v51, v52, v53, v54, v55, v56, v57, v58, v59, v60, v61, v62, v63, v64, v65, v66, v67, v68, v69, v70, v71, v72, v73, v74, v75, v76, v77, v78, v79, v80, v81, v82, v83, v84, v85, v86, v87, v88, v89, v90, v91, v92, v93, v94, v95, v96, v97, v98, v99, v100, v101, v102, v103, v104, v105, v106, v107, v108, v109, v110, v111, v112, v113, v114, v115, v116, v117, v118, v119, v120, v121, v122, v123, v124, v125, v126, v127, v128, v129, v130, v131, v132, v133, v134, v135, v136, v137, v138, v139, v140, v141, v142, v143, v144, v145, v146, v147, v148, v149, v150, v151, v152, v153, v154, v155, v156, v157, v158, v159, v160, v161, v162, v163, v164, v165, v166, v167, v168, v169, v170, v171, v172, v173, v174, v175, v176, v177, v178, v179, v180, v181, v182, v183, v184, v185, v186, v187], []⟩ X)) :
    Code.wp Try.prog csB0 Q ⟨#[u0, u1, u2, u3, u4, u5, .pointer (some ⟨g6, 0, none⟩), u7, u8, .pointer (some ⟨g9, 0, none⟩), .pointer (some ⟨G, i * 15, none⟩), .bool pb, .bool la, u13, u14, u15, u16, u17, u18, u19, u20, u21, u22, u23, u24, u25, u26, u27, u28, u29, .int .i64 0, u31, u32, u33, u34, u35, u36, u37, u38, u39, u40, u41, u42, u43, u44, u45, u46, u47, u48, u49, u50, u51, u52, u53, u54, u55, u56, u57, u58, u59, u60, u61, u62, u63, u64, u65, u66, u67, u68, u69, u70, u71, u72, u73, u74, u75, u76, u77, u78, u79, u80, u81, u82, u83, u84, u85, u86, u87, u88, u89, u90, u91, u92, u93, u94, u95, u96, u97, u98, u99, u100, u101, u102, u103, u104, u105, u106, u107, u108, u109, u110, u111, u112, u113, u114, u115, u116, u117, u118, u119, u120, u121, u122, u123, u124, u125, u126, u127, u128, u129, u130, u131, u132, u133, u134, u135, u136, u137, u138, u139, u140, u141, u142, u143, u144, u145, u146, u147, u148, u149, u150, u151, u152, u153, u154, u155, u156, u157, u158, u159, u160, u161, u162, u163, u164, u165, u166, u167, u168, u169, u170, u171, u172, u173, u174, u175, u176, u177, u178, u179, u180, u181, u182, u183, u184, u185, u186, u187], []⟩ X0 := by
  conv => arg 2; whnf
  obtain ⟨hT, h9, h6, b6, b9, h69, hi, hM, BX⟩ := HSB.out
  have TF := hT.tf
  have nG9 : G ≠ g9 := fun e => rowNe h9 hT.1 (by decide) rfl e.symm
  have nG6 : G ≠ g6 := fun e => rowNe h6 hT.1 (by decide) rfl e.symm
  have n9G : g9 ≠ G := fun e => nG9 e.symm
  have n6G : g6 ≠ G := fun e => nG6 e.symm
  have n69 : g6 ≠ g9 := h69
  have n96 : g9 ≠ g6 := fun e => h69 e.symm
  have bG : w0.heap.size ≤ G := (hT.1.lt G rfl).1
  have n0 : X0.cell? ⟨g9, 0, none⟩ = some (.string nm) := h9.cell (i := 0) (by decide)
  have n1 : X0.cell? ⟨g9, 1, none⟩ = some (.int .i64 H) := h9.cell (i := 1) (by decide)
  have n2 : X0.cell? ⟨g9, 2, none⟩ = some (.int .i64 V) := h9.cell (i := 2) (by decide)
  have n3 : X0.cell? ⟨g9, 3, none⟩ = some (.int .i64 C) := h9.cell (i := 3) (by decide)
  have n4 : X0.cell? ⟨g9, 4, none⟩ = some (.slice (some ⟨G, 0, none⟩) M cc) := h9.cell (i := 4) (by decide)
  have r0 : X0.cell? ⟨g6, 0, none⟩ = some (.string ⟨#[]⟩) := h6.cell (i := 0) (by decide)
  have r1 : X0.cell? ⟨g6, 1, none⟩ = some (.int .i64 0) := h6.cell (i := 1) (by decide)
  have r2 : X0.cell? ⟨g6, 2, none⟩ = some (.int .i64 0) := h6.cell (i := 2) (by decide)
  have r3 : X0.cell? ⟨g6, 3, none⟩ = some (.int .i64 0) := h6.cell (i := 3) (by decide)
  have r4 : X0.cell? ⟨g6, 4, none⟩ = some (.slice none 0 0) := h6.cell (i := 4) (by decide)
  have f0 := h6.frozen 0
  have f1 := h6.frozen 1
  have f2 := h6.frozen 2
  have f3 := h6.frozen 3
  have f4 := h6.frozen 4
  have cz : X0.cell? ⟨G, i * 15, none⟩ = some (.int .i64 (cf i).kd) := TF.cells (c := 0) hi (by decide)
  have ck : X0.cell? ⟨G, i * 15, none⟩ = some (.int .i64 (cf i).kd) := TF.cells (c := 0) hi (by decide)
  have fz : X0.frozen? ⟨G, i * 15, none⟩ = false := hT.1.frozenAt _
  have HTF : Hid (Tf (X0.setCell ⟨G, i * 15, none⟩ (.int .i64 4)) w0.heap.size G cc M (sn cf i { cf i with kd := 4 })) := hid1 (TF.cell (c := 0) hi (by decide) rfl (fun _ q => q))
  have HR6 : Hid ((X0.setCell ⟨G, i * 15, none⟩ (.int .i64 4)).rowIs g6 28 5 (netF ⟨#[]⟩ 0 0 0 (.slice none 0 0))) := hid1 (h6.setOther n6G _)
  have HBB : Hid (Below w0.heap.size w0 (X0.setCell ⟨G, i * 15, none⟩ (.int .i64 4))) := hid1 (bl_set BX bG _)
  clear hT TF h9 h6 h69 BX
  go_wp2_with fail
  refine hQ.out _ 51 true _ _ _ _ _ _ _ _ _ _ _ _ _ _ _ _ _ _ _ _ _ _ _ _ _ _ _ _ _ _ _ _ _ _ _ _ _ _ _ _ _ _ _ _ _ _ _ _ _ _ _ _ _ _ _ _ _ _ _ _ _ _ _ _ _ _ _ _ _ _ _ _ _ _ _ _ _ _ _ _ _ _ _ _ _ _ _ _ _ _ _ _ _ _ _ _ _ _ _ _ _ _ _ _ _ _ _ _ _ _ _ _ _ _ _ _ _ _ _ _ _ _ _ _ _ _ _ _ _ _ _ _ _ _ _ _ _ _ _ _ _ _ _ _ _ _ _ _ _ _ _ _ _ _ _ _ _ ?_
  exact sr_end HR6.out b6 HTF.out (fun _ S _ _ _ _ => ⟨sp_0, by decide⟩) HBB.out

attribute [local go_sem ↓] Go.wp_at_zero Go.wp_at_succ
set_option maxHeartbeats 64000000 in
set_option maxRecDepth 100000 in
theorem so_1 (u0 u1 u2 u3 u4 u5 u7 u8 u13 u14 u15 u16 u17 u18 u19 u20 u21 u22 u23 u24 u25 u26 u27 u28 u29 u31 u32 u33 u34 u35 u36 u37 u38 u39 u40 u41 u42 u43 u44 u45 u46 u47 u48 u49 u50 u51 u52 u53 u54 u55 u56 u57 u58 u59 u60 u61 u62 u63 u64 u65 u66 u67 u68 u69 u70 u71 u72 u73 u74 u75 u76 u77 u78 u79 u80 u81 u82 u83 u84 u85 u86 u87 u88 u89 u90 u91 u92 u93 u94 u95 u96 u97 u98 u99 u100 u101 u102 u103 u104 u105 u106 u107 u108 u109 u110 u111 u112 u113 u114 u115 u116 u117 u118 u119 u120 u121 u122 u123 u124 u125 u126 u127 u128 u129 u130 u131 u132 u133 u134 u135 u136 u137 u138 u139 u140 u141 u142 u143 u144 u145 u146 u147 u148 u149 u150 u151 u152 u153 u154 u155 u156 u157 u158 u159 u160 u161 u162 u163 u164 u165 u166 u167 u168 u169 u170 u171 u172 u173 u174 u175 u176 u177 u178 u179 u180 u181 u182 u183 u184 u185 u186 u187 : Value) (g6 g9 G cc M i : Nat) (nm : ByteArray) (H V C : Int) (cf : Nat → Ly) (la pb : Bool) (w0 X0 : World) (Q : Exit → Act → World → Prop)
    (HSB : Hid (Sb X0 w0 g6 g9 G cc M i nm H V C cf)) (HPB : Hid (((cf i).kd == 3) = pb)) 
    (hQ : Hid (∀ (X : World) (E : Int) (b : Bool) (v31 v32 v33 v34 v35 v36 v37 v38 v39 v40 v41 v42 v43 v44 v45 v46 v47 v48 v49 v50 v51 v52 v53 v54 v55 v56 v57 v58 v59 v60 v61 v62 v63 v64 v65 v66 v67 v68 v69 v70 v71 v72 v73 v74 v75 v76 v77 v78 v79 v80 v81 v82 v83 v84 v85 v86 v87 v88 v89 v90 v91 v92 v93 v94 v95 v96 v97 v98 v99 v100 v101 v102 v103 v104 v105 v106 v107 v108 v109 v110 v111 v112 v113 v114 v115 v116 v117 v118 v119 v120 v121 v122 v123 v124 v125 v126 v127 v128 v129 v130 v131 v132 v133 v134 v135 v136 v137 v138 v139 v140 v141 v142 v143 v144 v145 v146 v147 v148 v149 v150 v151 v152 v153 v154 v155 v156 v157 v158 v159 v160 v161 v162 v163 v164 v165 v166 v167 v168 v169 v170 v171 v172 v173 v174 v175 v176 v177 v178 v179 v180 v181 v182 v183 v184 v185 v186 v187 : Value), Sr X w0 g6 G cc M i nm H V C cf la E b → Q .ret ⟨#[u0, u1, u2, u3, u4, u5, .pointer (some ⟨g6, 0, none⟩), .int .i64 E, .bool b, .pointer (some ⟨g9, 0, none⟩), .pointer (some ⟨G, i * 15, none⟩), .bool pb, .bool la, u13, u14, u15, u16, u17, u18, u19, u20, u21, u22, u23, u24, u25, u26, u27, u28, u29, .int .i64 1, v31, v32, v33, v34, v35, v36, v37, v38, v39, v40, v41, v42, v43, v44, v45, v46, v47, v48, v49, v50, v51, v52, v53, v54, v55, v56, v57, v58, v59, v60, v61, v62, v63, v64, v65, v66, v67, v68, v69, v70, v71, v72, v73, v74, v75, v76, v77, v78, v79, v80, v81, v82, v83, v84, v85, v86, v87, v88, v89, v90, v91, v92, v93, v94, v95, v96, v97, v98, v99, v100, v101, v102, v103, v104, v105, v106, v107, v108, v109, v110, v111, v112, v113, v114, v115, v116, v117, v118, v119, v120, v121, v122, v123, v124, v125, v126, v127, v128, v129, v130, v131, v132, v133, v134, v135, v136, v137, v138, v139, v140, v141, v142, v143, v144, v145, v146, v147, v148, v149, v150, v151, v152, v153, v154, v155, v156, v157, v158, v159, v160, v161, v162, v163, v164, v165, v166, v167, v168, v169, v170, v171, v172, v173, v174, v175, v176, v177, v178, v179, v180, v181, v182, v183, v184, v185, v186, v187], []⟩ X)) :
    Code.wp Try.prog csB0 Q ⟨#[u0, u1, u2, u3, u4, u5, .pointer (some ⟨g6, 0, none⟩), u7, u8, .pointer (some ⟨g9, 0, none⟩), .pointer (some ⟨G, i * 15, none⟩), .bool pb, .bool la, u13, u14, u15, u16, u17, u18, u19, u20, u21, u22, u23, u24, u25, u26, u27, u28, u29, .int .i64 1, u31, u32, u33, u34, u35, u36, u37, u38, u39, u40, u41, u42, u43, u44, u45, u46, u47, u48, u49, u50, u51, u52, u53, u54, u55, u56, u57, u58, u59, u60, u61, u62, u63, u64, u65, u66, u67, u68, u69, u70, u71, u72, u73, u74, u75, u76, u77, u78, u79, u80, u81, u82, u83, u84, u85, u86, u87, u88, u89, u90, u91, u92, u93, u94, u95, u96, u97, u98, u99, u100, u101, u102, u103, u104, u105, u106, u107, u108, u109, u110, u111, u112, u113, u114, u115, u116, u117, u118, u119, u120, u121, u122, u123, u124, u125, u126, u127, u128, u129, u130, u131, u132, u133, u134, u135, u136, u137, u138, u139, u140, u141, u142, u143, u144, u145, u146, u147, u148, u149, u150, u151, u152, u153, u154, u155, u156, u157, u158, u159, u160, u161, u162, u163, u164, u165, u166, u167, u168, u169, u170, u171, u172, u173, u174, u175, u176, u177, u178, u179, u180, u181, u182, u183, u184, u185, u186, u187], []⟩ X0 := by
  conv => arg 2; whnf
  obtain ⟨hT, h9, h6, b6, b9, h69, hi, hM, BX⟩ := HSB.out
  have TF := hT.tf
  have nG9 : G ≠ g9 := fun e => rowNe h9 hT.1 (by decide) rfl e.symm
  have nG6 : G ≠ g6 := fun e => rowNe h6 hT.1 (by decide) rfl e.symm
  have n9G : g9 ≠ G := fun e => nG9 e.symm
  have n6G : g6 ≠ G := fun e => nG6 e.symm
  have n69 : g6 ≠ g9 := h69
  have n96 : g9 ≠ g6 := fun e => h69 e.symm
  have bG : w0.heap.size ≤ G := (hT.1.lt G rfl).1
  have n0 : X0.cell? ⟨g9, 0, none⟩ = some (.string nm) := h9.cell (i := 0) (by decide)
  have n1 : X0.cell? ⟨g9, 1, none⟩ = some (.int .i64 H) := h9.cell (i := 1) (by decide)
  have n2 : X0.cell? ⟨g9, 2, none⟩ = some (.int .i64 V) := h9.cell (i := 2) (by decide)
  have n3 : X0.cell? ⟨g9, 3, none⟩ = some (.int .i64 C) := h9.cell (i := 3) (by decide)
  have n4 : X0.cell? ⟨g9, 4, none⟩ = some (.slice (some ⟨G, 0, none⟩) M cc) := h9.cell (i := 4) (by decide)
  have r0 : X0.cell? ⟨g6, 0, none⟩ = some (.string ⟨#[]⟩) := h6.cell (i := 0) (by decide)
  have r1 : X0.cell? ⟨g6, 1, none⟩ = some (.int .i64 0) := h6.cell (i := 1) (by decide)
  have r2 : X0.cell? ⟨g6, 2, none⟩ = some (.int .i64 0) := h6.cell (i := 2) (by decide)
  have r3 : X0.cell? ⟨g6, 3, none⟩ = some (.int .i64 0) := h6.cell (i := 3) (by decide)
  have r4 : X0.cell? ⟨g6, 4, none⟩ = some (.slice none 0 0) := h6.cell (i := 4) (by decide)
  have f0 := h6.frozen 0
  have f1 := h6.frozen 1
  have f2 := h6.frozen 2
  have f3 := h6.frozen 3
  have f4 := h6.frozen 4
  have cz : X0.cell? ⟨G, i * 15 + 2, none⟩ = some (.int .i64 (cf i).k) := TF.cells (c := 2) hi (by decide)
  have ck : X0.cell? ⟨G, i * 15, none⟩ = some (.int .i64 (cf i).kd) := TF.cells (c := 0) hi (by decide)
  have fz : X0.frozen? ⟨G, i * 15 + 2, none⟩ = false := hT.1.frozenAt _
  have HTF : Hid (Tf (X0.setCell ⟨G, i * 15 + 2, none⟩ (.int .i64 4097)) w0.heap.size G cc M (sn cf i { cf i with k := 4097 })) := hid1 (TF.cell (c := 2) hi (by decide) rfl (fun _ q => q))
  have HR6 : Hid ((X0.setCell ⟨G, i * 15 + 2, none⟩ (.int .i64 4097)).rowIs g6 28 5 (netF ⟨#[]⟩ 0 0 0 (.slice none 0 0))) := hid1 (h6.setOther n6G _)
  have HBB : Hid (Below w0.heap.size w0 (X0.setCell ⟨G, i * 15 + 2, none⟩ (.int .i64 4097))) := hid1 (bl_set BX bG _)
  clear hT TF h9 h6 h69 BX
  cases pb
  · have e : ¬ (cf i).kd = 3 := by simpa using HPB.out
    have HE := hid1 e
    clear e
    go_wp2_with fail
    refine hQ.out _ 30 true _ _ _ _ _ _ _ _ _ _ _ _ _ _ _ _ _ _ _ _ _ _ _ _ _ _ _ _ _ _ _ _ _ _ _ _ _ _ _ _ _ _ _ _ _ _ _ _ _ _ _ _ _ _ _ _ _ _ _ _ _ _ _ _ _ _ _ _ _ _ _ _ _ _ _ _ _ _ _ _ _ _ _ _ _ _ _ _ _ _ _ _ _ _ _ _ _ _ _ _ _ _ _ _ _ _ _ _ _ _ _ _ _ _ _ _ _ _ _ _ _ _ _ _ _ _ _ _ _ _ _ _ _ _ _ _ _ _ _ _ _ _ _ _ _ _ _ _ _ _ _ _ _ _ _ _ _ ?_
    exact sr_end HR6.out b6 HTF.out (fun _ S q _ _ _ => ⟨by rw [sp_1 q, if_neg HE.out], by decide⟩) HBB.out
  · have e : (cf i).kd = 3 := by simpa using HPB.out
    have HE := hid1 e
    clear e
    go_wp2_with fail
    refine hQ.out _ 51 true _ _ _ _ _ _ _ _ _ _ _ _ _ _ _ _ _ _ _ _ _ _ _ _ _ _ _ _ _ _ _ _ _ _ _ _ _ _ _ _ _ _ _ _ _ _ _ _ _ _ _ _ _ _ _ _ _ _ _ _ _ _ _ _ _ _ _ _ _ _ _ _ _ _ _ _ _ _ _ _ _ _ _ _ _ _ _ _ _ _ _ _ _ _ _ _ _ _ _ _ _ _ _ _ _ _ _ _ _ _ _ _ _ _ _ _ _ _ _ _ _ _ _ _ _ _ _ _ _ _ _ _ _ _ _ _ _ _ _ _ _ _ _ _ _ _ _ _ _ _ _ _ _ _ _ _ _ ?_
    exact sr_end HR6.out b6 HTF.out (fun _ S q _ _ _ => ⟨by rw [sp_1 q, if_pos HE.out], by decide⟩) HBB.out

attribute [local go_sem ↓] Go.wp_at_zero Go.wp_at_succ
set_option maxHeartbeats 64000000 in
set_option maxRecDepth 100000 in
theorem so_2 (u0 u1 u2 u3 u4 u5 u7 u8 u13 u14 u15 u16 u17 u18 u19 u20 u21 u22 u23 u24 u25 u26 u27 u28 u29 u31 u32 u33 u34 u35 u36 u37 u38 u39 u40 u41 u42 u43 u44 u45 u46 u47 u48 u49 u50 u51 u52 u53 u54 u55 u56 u57 u58 u59 u60 u61 u62 u63 u64 u65 u66 u67 u68 u69 u70 u71 u72 u73 u74 u75 u76 u77 u78 u79 u80 u81 u82 u83 u84 u85 u86 u87 u88 u89 u90 u91 u92 u93 u94 u95 u96 u97 u98 u99 u100 u101 u102 u103 u104 u105 u106 u107 u108 u109 u110 u111 u112 u113 u114 u115 u116 u117 u118 u119 u120 u121 u122 u123 u124 u125 u126 u127 u128 u129 u130 u131 u132 u133 u134 u135 u136 u137 u138 u139 u140 u141 u142 u143 u144 u145 u146 u147 u148 u149 u150 u151 u152 u153 u154 u155 u156 u157 u158 u159 u160 u161 u162 u163 u164 u165 u166 u167 u168 u169 u170 u171 u172 u173 u174 u175 u176 u177 u178 u179 u180 u181 u182 u183 u184 u185 u186 u187 : Value) (g6 g9 G cc M i : Nat) (nm : ByteArray) (H V C : Int) (cf : Nat → Ly) (la pb : Bool) (w0 X0 : World) (Q : Exit → Act → World → Prop)
    (HSB : Hid (Sb X0 w0 g6 g9 G cc M i nm H V C cf)) (_HPB : Hid (((cf i).kd == 3) = pb)) 
    (hQ : Hid (∀ (X : World) (E : Int) (b : Bool) (v31 v32 v33 v34 v35 v36 v37 v38 v39 v40 v41 v42 v43 v44 v45 v46 v47 v48 v49 v50 v51 v52 v53 v54 v55 v56 v57 v58 v59 v60 v61 v62 v63 v64 v65 v66 v67 v68 v69 v70 v71 v72 v73 v74 v75 v76 v77 v78 v79 v80 v81 v82 v83 v84 v85 v86 v87 v88 v89 v90 v91 v92 v93 v94 v95 v96 v97 v98 v99 v100 v101 v102 v103 v104 v105 v106 v107 v108 v109 v110 v111 v112 v113 v114 v115 v116 v117 v118 v119 v120 v121 v122 v123 v124 v125 v126 v127 v128 v129 v130 v131 v132 v133 v134 v135 v136 v137 v138 v139 v140 v141 v142 v143 v144 v145 v146 v147 v148 v149 v150 v151 v152 v153 v154 v155 v156 v157 v158 v159 v160 v161 v162 v163 v164 v165 v166 v167 v168 v169 v170 v171 v172 v173 v174 v175 v176 v177 v178 v179 v180 v181 v182 v183 v184 v185 v186 v187 : Value), Sr X w0 g6 G cc M i nm H V C cf la E b → Q .ret ⟨#[u0, u1, u2, u3, u4, u5, .pointer (some ⟨g6, 0, none⟩), .int .i64 E, .bool b, .pointer (some ⟨g9, 0, none⟩), .pointer (some ⟨G, i * 15, none⟩), .bool pb, .bool la, u13, u14, u15, u16, u17, u18, u19, u20, u21, u22, u23, u24, u25, u26, u27, u28, u29, .int .i64 2, v31, v32, v33, v34, v35, v36, v37, v38, v39, v40, v41, v42, v43, v44, v45, v46, v47, v48, v49, v50, v51, v52, v53, v54, v55, v56, v57, v58, v59, v60, v61, v62, v63, v64, v65, v66, v67, v68, v69, v70, v71, v72, v73, v74, v75, v76, v77, v78, v79, v80, v81, v82, v83, v84, v85, v86, v87, v88, v89, v90, v91, v92, v93, v94, v95, v96, v97, v98, v99, v100, v101, v102, v103, v104, v105, v106, v107, v108, v109, v110, v111, v112, v113, v114, v115, v116, v117, v118, v119, v120, v121, v122, v123, v124, v125, v126, v127, v128, v129, v130, v131, v132, v133, v134, v135, v136, v137, v138, v139, v140, v141, v142, v143, v144, v145, v146, v147, v148, v149, v150, v151, v152, v153, v154, v155, v156, v157, v158, v159, v160, v161, v162, v163, v164, v165, v166, v167, v168, v169, v170, v171, v172, v173, v174, v175, v176, v177, v178, v179, v180, v181, v182, v183, v184, v185, v186, v187], []⟩ X)) :
    Code.wp Try.prog csB0 Q ⟨#[u0, u1, u2, u3, u4, u5, .pointer (some ⟨g6, 0, none⟩), u7, u8, .pointer (some ⟨g9, 0, none⟩), .pointer (some ⟨G, i * 15, none⟩), .bool pb, .bool la, u13, u14, u15, u16, u17, u18, u19, u20, u21, u22, u23, u24, u25, u26, u27, u28, u29, .int .i64 2, u31, u32, u33, u34, u35, u36, u37, u38, u39, u40, u41, u42, u43, u44, u45, u46, u47, u48, u49, u50, u51, u52, u53, u54, u55, u56, u57, u58, u59, u60, u61, u62, u63, u64, u65, u66, u67, u68, u69, u70, u71, u72, u73, u74, u75, u76, u77, u78, u79, u80, u81, u82, u83, u84, u85, u86, u87, u88, u89, u90, u91, u92, u93, u94, u95, u96, u97, u98, u99, u100, u101, u102, u103, u104, u105, u106, u107, u108, u109, u110, u111, u112, u113, u114, u115, u116, u117, u118, u119, u120, u121, u122, u123, u124, u125, u126, u127, u128, u129, u130, u131, u132, u133, u134, u135, u136, u137, u138, u139, u140, u141, u142, u143, u144, u145, u146, u147, u148, u149, u150, u151, u152, u153, u154, u155, u156, u157, u158, u159, u160, u161, u162, u163, u164, u165, u166, u167, u168, u169, u170, u171, u172, u173, u174, u175, u176, u177, u178, u179, u180, u181, u182, u183, u184, u185, u186, u187], []⟩ X0 := by
  conv => arg 2; whnf
  obtain ⟨hT, h9, h6, b6, b9, h69, hi, hM, BX⟩ := HSB.out
  have TF := hT.tf
  have nG9 : G ≠ g9 := fun e => rowNe h9 hT.1 (by decide) rfl e.symm
  have nG6 : G ≠ g6 := fun e => rowNe h6 hT.1 (by decide) rfl e.symm
  have n9G : g9 ≠ G := fun e => nG9 e.symm
  have n6G : g6 ≠ G := fun e => nG6 e.symm
  have n69 : g6 ≠ g9 := h69
  have n96 : g9 ≠ g6 := fun e => h69 e.symm
  have bG : w0.heap.size ≤ G := (hT.1.lt G rfl).1
  have n0 : X0.cell? ⟨g9, 0, none⟩ = some (.string nm) := h9.cell (i := 0) (by decide)
  have n1 : X0.cell? ⟨g9, 1, none⟩ = some (.int .i64 H) := h9.cell (i := 1) (by decide)
  have n2 : X0.cell? ⟨g9, 2, none⟩ = some (.int .i64 V) := h9.cell (i := 2) (by decide)
  have n3 : X0.cell? ⟨g9, 3, none⟩ = some (.int .i64 C) := h9.cell (i := 3) (by decide)
  have n4 : X0.cell? ⟨g9, 4, none⟩ = some (.slice (some ⟨G, 0, none⟩) M cc) := h9.cell (i := 4) (by decide)
  have r0 : X0.cell? ⟨g6, 0, none⟩ = some (.string ⟨#[]⟩) := h6.cell (i := 0) (by decide)
  have r1 : X0.cell? ⟨g6, 1, none⟩ = some (.int .i64 0) := h6.cell (i := 1) (by decide)
  have r2 : X0.cell? ⟨g6, 2, none⟩ = some (.int .i64 0) := h6.cell (i := 2) (by decide)
  have r3 : X0.cell? ⟨g6, 3, none⟩ = some (.int .i64 0) := h6.cell (i := 3) (by decide)
  have r4 : X0.cell? ⟨g6, 4, none⟩ = some (.slice none 0 0) := h6.cell (i := 4) (by decide)
  have f0 := h6.frozen 0
  have f1 := h6.frozen 1
  have f2 := h6.frozen 2
  have f3 := h6.frozen 3
  have f4 := h6.frozen 4
  have cz : X0.cell? ⟨G, i * 15 + 6, none⟩ = some (.int .i64 (cf i).sx) := TF.cells (c := 6) hi (by decide)
  have ck : X0.cell? ⟨G, i * 15, none⟩ = some (.int .i64 (cf i).kd) := TF.cells (c := 0) hi (by decide)
  have fz : X0.frozen? ⟨G, i * 15 + 6, none⟩ = false := hT.1.frozenAt _
  have HTF : Hid (Tf (X0.setCell ⟨G, i * 15 + 6, none⟩ (.int .i64 16)) w0.heap.size G cc M (sn cf i { cf i with sx := 16 })) := hid1 (TF.cell (c := 6) hi (by decide) rfl (fun _ q => q))
  have HR6 : Hid ((X0.setCell ⟨G, i * 15 + 6, none⟩ (.int .i64 16)).rowIs g6 28 5 (netF ⟨#[]⟩ 0 0 0 (.slice none 0 0))) := hid1 (h6.setOther n6G _)
  have HBB : Hid (Below w0.heap.size w0 (X0.setCell ⟨G, i * 15 + 6, none⟩ (.int .i64 16))) := hid1 (bl_set BX bG _)
  clear hT TF h9 h6 h69 BX
  obtain ⟨tb, htb⟩ : ∃ tb, ((cf i).kd == 2) = tb := ⟨_, rfl⟩
  have HTB := hid1 htb
  cases tb
  · have e : ¬ (cf i).kd = 2 := by simpa using htb
    have HE := hid1 e
    clear e
    go_wp2_with fail
    refine hQ.out _ 56 true _ _ _ _ _ _ _ _ _ _ _ _ _ _ _ _ _ _ _ _ _ _ _ _ _ _ _ _ _ _ _ _ _ _ _ _ _ _ _ _ _ _ _ _ _ _ _ _ _ _ _ _ _ _ _ _ _ _ _ _ _ _ _ _ _ _ _ _ _ _ _ _ _ _ _ _ _ _ _ _ _ _ _ _ _ _ _ _ _ _ _ _ _ _ _ _ _ _ _ _ _ _ _ _ _ _ _ _ _ _ _ _ _ _ _ _ _ _ _ _ _ _ _ _ _ _ _ _ _ _ _ _ _ _ _ _ _ _ _ _ _ _ _ _ _ _ _ _ _ _ _ _ _ _ _ _ _ ?_
    exact sr_end HR6.out b6 HTF.out (fun _ S q _ _ _ => ⟨by rw [sp_2 q, if_neg HE.out], by decide⟩) HBB.out
  · have e : (cf i).kd = 2 := by simpa using htb
    have HE := hid1 e
    clear e
    go_wp2_with fail
    refine hQ.out _ 51 true _ _ _ _ _ _ _ _ _ _ _ _ _ _ _ _ _ _ _ _ _ _ _ _ _ _ _ _ _ _ _ _ _ _ _ _ _ _ _ _ _ _ _ _ _ _ _ _ _ _ _ _ _ _ _ _ _ _ _ _ _ _ _ _ _ _ _ _ _ _ _ _ _ _ _ _ _ _ _ _ _ _ _ _ _ _ _ _ _ _ _ _ _ _ _ _ _ _ _ _ _ _ _ _ _ _ _ _ _ _ _ _ _ _ _ _ _ _ _ _ _ _ _ _ _ _ _ _ _ _ _ _ _ _ _ _ _ _ _ _ _ _ _ _ _ _ _ _ _ _ _ _ _ _ _ _ _ ?_
    exact sr_end HR6.out b6 HTF.out (fun _ S q _ _ _ => ⟨by rw [sp_2 q, if_pos HE.out], by decide⟩) HBB.out

attribute [local go_sem ↓] Go.wp_at_zero Go.wp_at_succ
set_option maxHeartbeats 64000000 in
set_option maxRecDepth 100000 in
theorem so_3 (u0 u1 u2 u3 u4 u5 u7 u8 u13 u14 u15 u16 u17 u18 u19 u20 u21 u22 u23 u24 u25 u26 u27 u28 u29 u31 u32 u33 u34 u35 u36 u37 u38 u39 u40 u41 u42 u43 u44 u45 u46 u47 u48 u49 u50 u51 u52 u53 u54 u55 u56 u57 u58 u59 u60 u61 u62 u63 u64 u65 u66 u67 u68 u69 u70 u71 u72 u73 u74 u75 u76 u77 u78 u79 u80 u81 u82 u83 u84 u85 u86 u87 u88 u89 u90 u91 u92 u93 u94 u95 u96 u97 u98 u99 u100 u101 u102 u103 u104 u105 u106 u107 u108 u109 u110 u111 u112 u113 u114 u115 u116 u117 u118 u119 u120 u121 u122 u123 u124 u125 u126 u127 u128 u129 u130 u131 u132 u133 u134 u135 u136 u137 u138 u139 u140 u141 u142 u143 u144 u145 u146 u147 u148 u149 u150 u151 u152 u153 u154 u155 u156 u157 u158 u159 u160 u161 u162 u163 u164 u165 u166 u167 u168 u169 u170 u171 u172 u173 u174 u175 u176 u177 u178 u179 u180 u181 u182 u183 u184 u185 u186 u187 : Value) (g6 g9 G cc M i : Nat) (nm : ByteArray) (H V C : Int) (cf : Nat → Ly) (la pb : Bool) (w0 X0 : World) (Q : Exit → Act → World → Prop)
    (HSB : Hid (Sb X0 w0 g6 g9 G cc M i nm H V C cf)) (_HPB : Hid (((cf i).kd == 3) = pb)) 
    (hQ : Hid (∀ (X : World) (E : Int) (b : Bool) (v31 v32 v33 v34 v35 v36 v37 v38 v39 v40 v41 v42 v43 v44 v45 v46 v47 v48 v49 v50 v51 v52 v53 v54 v55 v56 v57 v58 v59 v60 v61 v62 v63 v64 v65 v66 v67 v68 v69 v70 v71 v72 v73 v74 v75 v76 v77 v78 v79 v80 v81 v82 v83 v84 v85 v86 v87 v88 v89 v90 v91 v92 v93 v94 v95 v96 v97 v98 v99 v100 v101 v102 v103 v104 v105 v106 v107 v108 v109 v110 v111 v112 v113 v114 v115 v116 v117 v118 v119 v120 v121 v122 v123 v124 v125 v126 v127 v128 v129 v130 v131 v132 v133 v134 v135 v136 v137 v138 v139 v140 v141 v142 v143 v144 v145 v146 v147 v148 v149 v150 v151 v152 v153 v154 v155 v156 v157 v158 v159 v160 v161 v162 v163 v164 v165 v166 v167 v168 v169 v170 v171 v172 v173 v174 v175 v176 v177 v178 v179 v180 v181 v182 v183 v184 v185 v186 v187 : Value), Sr X w0 g6 G cc M i nm H V C cf la E b → Q .ret ⟨#[u0, u1, u2, u3, u4, u5, .pointer (some ⟨g6, 0, none⟩), .int .i64 E, .bool b, .pointer (some ⟨g9, 0, none⟩), .pointer (some ⟨G, i * 15, none⟩), .bool pb, .bool la, u13, u14, u15, u16, u17, u18, u19, u20, u21, u22, u23, u24, u25, u26, u27, u28, u29, .int .i64 3, v31, v32, v33, v34, v35, v36, v37, v38, v39, v40, v41, v42, v43, v44, v45, v46, v47, v48, v49, v50, v51, v52, v53, v54, v55, v56, v57, v58, v59, v60, v61, v62, v63, v64, v65, v66, v67, v68, v69, v70, v71, v72, v73, v74, v75, v76, v77, v78, v79, v80, v81, v82, v83, v84, v85, v86, v87, v88, v89, v90, v91, v92, v93, v94, v95, v96, v97, v98, v99, v100, v101, v102, v103, v104, v105, v106, v107, v108, v109, v110, v111, v112, v113, v114, v115, v116, v117, v118, v119, v120, v121, v122, v123, v124, v125, v126, v127, v128, v129, v130, v131, v132, v133, v134, v135, v136, v137, v138, v139, v140, v141, v142, v143, v144, v145, v146, v147, v148, v149, v150, v151, v152, v153, v154, v155, v156, v157, v158, v159, v160, v161, v162, v163, v164, v165, v166, v167, v168, v169, v170, v171, v172, v173, v174, v175, v176, v177, v178, v179, v180, v181, v182, v183, v184, v185, v186, v187], []⟩ X)) :
    Code.wp Try.prog csB0 Q ⟨#[u0, u1, u2, u3, u4, u5, .pointer (some ⟨g6, 0, none⟩), u7, u8, .pointer (some ⟨g9, 0, none⟩), .pointer (some ⟨G, i * 15, none⟩), .bool pb, .bool la, u13, u14, u15, u16, u17, u18, u19, u20, u21, u22, u23, u24, u25, u26, u27, u28, u29, .int .i64 3, u31, u32, u33, u34, u35, u36, u37, u38, u39, u40, u41, u42, u43, u44, u45, u46, u47, u48, u49, u50, u51, u52, u53, u54, u55, u56, u57, u58, u59, u60, u61, u62, u63, u64, u65, u66, u67, u68, u69, u70, u71, u72, u73, u74, u75, u76, u77, u78, u79, u80, u81, u82, u83, u84, u85, u86, u87, u88, u89, u90, u91, u92, u93, u94, u95, u96, u97, u98, u99, u100, u101, u102, u103, u104, u105, u106, u107, u108, u109, u110, u111, u112, u113, u114, u115, u116, u117, u118, u119, u120, u121, u122, u123, u124, u125, u126, u127, u128, u129, u130, u131, u132, u133, u134, u135, u136, u137, u138, u139, u140, u141, u142, u143, u144, u145, u146, u147, u148, u149, u150, u151, u152, u153, u154, u155, u156, u157, u158, u159, u160, u161, u162, u163, u164, u165, u166, u167, u168, u169, u170, u171, u172, u173, u174, u175, u176, u177, u178, u179, u180, u181, u182, u183, u184, u185, u186, u187], []⟩ X0 := by
  conv => arg 2; whnf
  obtain ⟨hT, h9, h6, b6, b9, h69, hi, hM, BX⟩ := HSB.out
  have TF := hT.tf
  have nG9 : G ≠ g9 := fun e => rowNe h9 hT.1 (by decide) rfl e.symm
  have nG6 : G ≠ g6 := fun e => rowNe h6 hT.1 (by decide) rfl e.symm
  have n9G : g9 ≠ G := fun e => nG9 e.symm
  have n6G : g6 ≠ G := fun e => nG6 e.symm
  have n69 : g6 ≠ g9 := h69
  have n96 : g9 ≠ g6 := fun e => h69 e.symm
  have bG : w0.heap.size ≤ G := (hT.1.lt G rfl).1
  have n0 : X0.cell? ⟨g9, 0, none⟩ = some (.string nm) := h9.cell (i := 0) (by decide)
  have n1 : X0.cell? ⟨g9, 1, none⟩ = some (.int .i64 H) := h9.cell (i := 1) (by decide)
  have n2 : X0.cell? ⟨g9, 2, none⟩ = some (.int .i64 V) := h9.cell (i := 2) (by decide)
  have n3 : X0.cell? ⟨g9, 3, none⟩ = some (.int .i64 C) := h9.cell (i := 3) (by decide)
  have n4 : X0.cell? ⟨g9, 4, none⟩ = some (.slice (some ⟨G, 0, none⟩) M cc) := h9.cell (i := 4) (by decide)
  have r0 : X0.cell? ⟨g6, 0, none⟩ = some (.string ⟨#[]⟩) := h6.cell (i := 0) (by decide)
  have r1 : X0.cell? ⟨g6, 1, none⟩ = some (.int .i64 0) := h6.cell (i := 1) (by decide)
  have r2 : X0.cell? ⟨g6, 2, none⟩ = some (.int .i64 0) := h6.cell (i := 2) (by decide)
  have r3 : X0.cell? ⟨g6, 3, none⟩ = some (.int .i64 0) := h6.cell (i := 3) (by decide)
  have r4 : X0.cell? ⟨g6, 4, none⟩ = some (.slice none 0 0) := h6.cell (i := 4) (by decide)
  have f0 := h6.frozen 0
  have f1 := h6.frozen 1
  have f2 := h6.frozen 2
  have f3 := h6.frozen 3
  have f4 := h6.frozen 4
  have cz : X0.cell? ⟨G, i * 15 + 11, none⟩ = some (.int .i64 (cf i).bd) := TF.cells (c := 11) hi (by decide)
  have ck : X0.cell? ⟨G, i * 15, none⟩ = some (.int .i64 (cf i).kd) := TF.cells (c := 0) hi (by decide)
  have fz : X0.frozen? ⟨G, i * 15 + 11, none⟩ = false := hT.1.frozenAt _
  have HTF : Hid (Tf (X0.setCell ⟨G, i * 15 + 11, none⟩ (.int .i64 2)) w0.heap.size G cc M (sn cf i { cf i with bd := 2 })) := hid1 (TF.cell (c := 11) hi (by decide) rfl (fun _ q => q))
  have HR6 : Hid ((X0.setCell ⟨G, i * 15 + 11, none⟩ (.int .i64 2)).rowIs g6 28 5 (netF ⟨#[]⟩ 0 0 0 (.slice none 0 0))) := hid1 (h6.setOther n6G _)
  have HBB : Hid (Below w0.heap.size w0 (X0.setCell ⟨G, i * 15 + 11, none⟩ (.int .i64 2))) := hid1 (bl_set BX bG _)
  clear hT TF h9 h6 h69 BX
  obtain ⟨tb, htb⟩ : ∃ tb, ((cf i).kd == 1) = tb := ⟨_, rfl⟩
  have HTB := hid1 htb
  cases tb
  · have e : ¬ (cf i).kd = 1 := by simpa using htb
    have HE := hid1 e
    clear e
    go_wp2_with fail
    refine hQ.out _ 51 true _ _ _ _ _ _ _ _ _ _ _ _ _ _ _ _ _ _ _ _ _ _ _ _ _ _ _ _ _ _ _ _ _ _ _ _ _ _ _ _ _ _ _ _ _ _ _ _ _ _ _ _ _ _ _ _ _ _ _ _ _ _ _ _ _ _ _ _ _ _ _ _ _ _ _ _ _ _ _ _ _ _ _ _ _ _ _ _ _ _ _ _ _ _ _ _ _ _ _ _ _ _ _ _ _ _ _ _ _ _ _ _ _ _ _ _ _ _ _ _ _ _ _ _ _ _ _ _ _ _ _ _ _ _ _ _ _ _ _ _ _ _ _ _ _ _ _ _ _ _ _ _ _ _ _ _ _ ?_
    exact sr_end HR6.out b6 HTF.out (fun _ S q _ _ _ => ⟨by rw [sp_3 q, if_neg HE.out], by decide⟩) HBB.out
  · have e : (cf i).kd = 1 := by simpa using htb
    have HE := hid1 e
    clear e
    go_wp2_with fail
    refine hQ.out _ 56 true _ _ _ _ _ _ _ _ _ _ _ _ _ _ _ _ _ _ _ _ _ _ _ _ _ _ _ _ _ _ _ _ _ _ _ _ _ _ _ _ _ _ _ _ _ _ _ _ _ _ _ _ _ _ _ _ _ _ _ _ _ _ _ _ _ _ _ _ _ _ _ _ _ _ _ _ _ _ _ _ _ _ _ _ _ _ _ _ _ _ _ _ _ _ _ _ _ _ _ _ _ _ _ _ _ _ _ _ _ _ _ _ _ _ _ _ _ _ _ _ _ _ _ _ _ _ _ _ _ _ _ _ _ _ _ _ _ _ _ _ _ _ _ _ _ _ _ _ _ _ _ _ _ _ _ _ _ ?_
    exact sr_end HR6.out b6 HTF.out (fun _ S q _ _ _ => ⟨by rw [sp_3 q, if_pos HE.out], by decide⟩) HBB.out

attribute [local go_sem ↓] Go.wp_at_zero Go.wp_at_succ
set_option maxHeartbeats 64000000 in
set_option maxRecDepth 100000 in
theorem so_4 (u0 u1 u2 u3 u4 u5 u7 u8 u13 u14 u15 u16 u17 u18 u19 u20 u21 u22 u23 u24 u25 u26 u27 u28 u29 u31 u32 u33 u34 u35 u36 u37 u38 u39 u40 u41 u42 u43 u44 u45 u46 u47 u48 u49 u50 u51 u52 u53 u54 u55 u56 u57 u58 u59 u60 u61 u62 u63 u64 u65 u66 u67 u68 u69 u70 u71 u72 u73 u74 u75 u76 u77 u78 u79 u80 u81 u82 u83 u84 u85 u86 u87 u88 u89 u90 u91 u92 u93 u94 u95 u96 u97 u98 u99 u100 u101 u102 u103 u104 u105 u106 u107 u108 u109 u110 u111 u112 u113 u114 u115 u116 u117 u118 u119 u120 u121 u122 u123 u124 u125 u126 u127 u128 u129 u130 u131 u132 u133 u134 u135 u136 u137 u138 u139 u140 u141 u142 u143 u144 u145 u146 u147 u148 u149 u150 u151 u152 u153 u154 u155 u156 u157 u158 u159 u160 u161 u162 u163 u164 u165 u166 u167 u168 u169 u170 u171 u172 u173 u174 u175 u176 u177 u178 u179 u180 u181 u182 u183 u184 u185 u186 u187 : Value) (g6 g9 G cc M i : Nat) (nm : ByteArray) (H V C : Int) (cf : Nat → Ly) (la pb : Bool) (w0 X0 : World) (Q : Exit → Act → World → Prop)
    (HSB : Hid (Sb X0 w0 g6 g9 G cc M i nm H V C cf)) (HPB : Hid (((cf i).kd == 3) = pb)) 
    (hQ : Hid (∀ (X : World) (E : Int) (b : Bool) (v31 v32 v33 v34 v35 v36 v37 v38 v39 v40 v41 v42 v43 v44 v45 v46 v47 v48 v49 v50 v51 v52 v53 v54 v55 v56 v57 v58 v59 v60 v61 v62 v63 v64 v65 v66 v67 v68 v69 v70 v71 v72 v73 v74 v75 v76 v77 v78 v79 v80 v81 v82 v83 v84 v85 v86 v87 v88 v89 v90 v91 v92 v93 v94 v95 v96 v97 v98 v99 v100 v101 v102 v103 v104 v105 v106 v107 v108 v109 v110 v111 v112 v113 v114 v115 v116 v117 v118 v119 v120 v121 v122 v123 v124 v125 v126 v127 v128 v129 v130 v131 v132 v133 v134 v135 v136 v137 v138 v139 v140 v141 v142 v143 v144 v145 v146 v147 v148 v149 v150 v151 v152 v153 v154 v155 v156 v157 v158 v159 v160 v161 v162 v163 v164 v165 v166 v167 v168 v169 v170 v171 v172 v173 v174 v175 v176 v177 v178 v179 v180 v181 v182 v183 v184 v185 v186 v187 : Value), Sr X w0 g6 G cc M i nm H V C cf la E b → Q .ret ⟨#[u0, u1, u2, u3, u4, u5, .pointer (some ⟨g6, 0, none⟩), .int .i64 E, .bool b, .pointer (some ⟨g9, 0, none⟩), .pointer (some ⟨G, i * 15, none⟩), .bool pb, .bool la, u13, u14, u15, u16, u17, u18, u19, u20, u21, u22, u23, u24, u25, u26, u27, u28, u29, .int .i64 4, v31, v32, v33, v34, v35, v36, v37, v38, v39, v40, v41, v42, v43, v44, v45, v46, v47, v48, v49, v50, v51, v52, v53, v54, v55, v56, v57, v58, v59, v60, v61, v62, v63, v64, v65, v66, v67, v68, v69, v70, v71, v72, v73, v74, v75, v76, v77, v78, v79, v80, v81, v82, v83, v84, v85, v86, v87, v88, v89, v90, v91, v92, v93, v94, v95, v96, v97, v98, v99, v100, v101, v102, v103, v104, v105, v106, v107, v108, v109, v110, v111, v112, v113, v114, v115, v116, v117, v118, v119, v120, v121, v122, v123, v124, v125, v126, v127, v128, v129, v130, v131, v132, v133, v134, v135, v136, v137, v138, v139, v140, v141, v142, v143, v144, v145, v146, v147, v148, v149, v150, v151, v152, v153, v154, v155, v156, v157, v158, v159, v160, v161, v162, v163, v164, v165, v166, v167, v168, v169, v170, v171, v172, v173, v174, v175, v176, v177, v178, v179, v180, v181, v182, v183, v184, v185, v186, v187], []⟩ X)) :
    Code.wp Try.prog csB0 Q ⟨#[u0, u1, u2, u3, u4, u5, .pointer (some ⟨g6, 0, none⟩), u7, u8, .pointer (some ⟨g9, 0, none⟩), .pointer (some ⟨G, i * 15, none⟩), .bool pb, .bool la, u13, u14, u15, u16, u17, u18, u19, u20, u21, u22, u23, u24, u25, u26, u27, u28, u29, .int .i64 4, u31, u32, u33, u34, u35, u36, u37, u38, u39, u40, u41, u42, u43, u44, u45, u46, u47, u48, u49, u50, u51, u52, u53, u54, u55, u56, u57, u58, u59, u60, u61, u62, u63, u64, u65, u66, u67, u68, u69, u70, u71, u72, u73, u74, u75, u76, u77, u78, u79, u80, u81, u82, u83, u84, u85, u86, u87, u88, u89, u90, u91, u92, u93, u94, u95, u96, u97, u98, u99, u100, u101, u102, u103, u104, u105, u106, u107, u108, u109, u110, u111, u112, u113, u114, u115, u116, u117, u118, u119, u120, u121, u122, u123, u124, u125, u126, u127, u128, u129, u130, u131, u132, u133, u134, u135, u136, u137, u138, u139, u140, u141, u142, u143, u144, u145, u146, u147, u148, u149, u150, u151, u152, u153, u154, u155, u156, u157, u158, u159, u160, u161, u162, u163, u164, u165, u166, u167, u168, u169, u170, u171, u172, u173, u174, u175, u176, u177, u178, u179, u180, u181, u182, u183, u184, u185, u186, u187], []⟩ X0 := by
  conv => arg 2; whnf
  obtain ⟨hT, h9, h6, b6, b9, h69, hi, hM, BX⟩ := HSB.out
  have TF := hT.tf
  have nG9 : G ≠ g9 := fun e => rowNe h9 hT.1 (by decide) rfl e.symm
  have nG6 : G ≠ g6 := fun e => rowNe h6 hT.1 (by decide) rfl e.symm
  have n9G : g9 ≠ G := fun e => nG9 e.symm
  have n6G : g6 ≠ G := fun e => nG6 e.symm
  have n69 : g6 ≠ g9 := h69
  have n96 : g9 ≠ g6 := fun e => h69 e.symm
  have bG : w0.heap.size ≤ G := (hT.1.lt G rfl).1
  have n0 : X0.cell? ⟨g9, 0, none⟩ = some (.string nm) := h9.cell (i := 0) (by decide)
  have n1 : X0.cell? ⟨g9, 1, none⟩ = some (.int .i64 H) := h9.cell (i := 1) (by decide)
  have n2 : X0.cell? ⟨g9, 2, none⟩ = some (.int .i64 V) := h9.cell (i := 2) (by decide)
  have n3 : X0.cell? ⟨g9, 3, none⟩ = some (.int .i64 C) := h9.cell (i := 3) (by decide)
  have n4 : X0.cell? ⟨g9, 4, none⟩ = some (.slice (some ⟨G, 0, none⟩) M cc) := h9.cell (i := 4) (by decide)
  have r0 : X0.cell? ⟨g6, 0, none⟩ = some (.string ⟨#[]⟩) := h6.cell (i := 0) (by decide)
  have r1 : X0.cell? ⟨g6, 1, none⟩ = some (.int .i64 0) := h6.cell (i := 1) (by decide)
  have r2 : X0.cell? ⟨g6, 2, none⟩ = some (.int .i64 0) := h6.cell (i := 2) (by decide)
  have r3 : X0.cell? ⟨g6, 3, none⟩ = some (.int .i64 0) := h6.cell (i := 3) (by decide)
  have r4 : X0.cell? ⟨g6, 4, none⟩ = some (.slice none 0 0) := h6.cell (i := 4) (by decide)
  have f0 := h6.frozen 0
  have f1 := h6.frozen 1
  have f2 := h6.frozen 2
  have f3 := h6.frozen 3
  have f4 := h6.frozen 4
  have cz : X0.cell? ⟨G, i * 15 + 1, none⟩ = some (.int .i64 (cf i).wt) := TF.cells (c := 1) hi (by decide)
  have ck : X0.cell? ⟨G, i * 15, none⟩ = some (.int .i64 (cf i).kd) := TF.cells (c := 0) hi (by decide)
  have fz : X0.frozen? ⟨G, i * 15 + 1, none⟩ = false := hT.1.frozenAt _
  have HTF : Hid (Tf (X0.setCell ⟨G, i * 15 + 1, none⟩ (.int .i64 3)) w0.heap.size G cc M (sn cf i { cf i with wt := 3 })) := hid1 (TF.cell (c := 1) hi (by decide) rfl (fun _ q => q))
  have HR6 : Hid ((X0.setCell ⟨G, i * 15 + 1, none⟩ (.int .i64 3)).rowIs g6 28 5 (netF ⟨#[]⟩ 0 0 0 (.slice none 0 0))) := hid1 (h6.setOther n6G _)
  have HBB : Hid (Below w0.heap.size w0 (X0.setCell ⟨G, i * 15 + 1, none⟩ (.int .i64 3))) := hid1 (bl_set BX bG _)
  clear hT TF h9 h6 h69 BX
  cases pb
  · have e : ¬ (cf i).kd = 3 := by simpa using HPB.out
    have HE := hid1 e
    clear e
    go_wp2_with fail
    refine hQ.out _ 52 true _ _ _ _ _ _ _ _ _ _ _ _ _ _ _ _ _ _ _ _ _ _ _ _ _ _ _ _ _ _ _ _ _ _ _ _ _ _ _ _ _ _ _ _ _ _ _ _ _ _ _ _ _ _ _ _ _ _ _ _ _ _ _ _ _ _ _ _ _ _ _ _ _ _ _ _ _ _ _ _ _ _ _ _ _ _ _ _ _ _ _ _ _ _ _ _ _ _ _ _ _ _ _ _ _ _ _ _ _ _ _ _ _ _ _ _ _ _ _ _ _ _ _ _ _ _ _ _ _ _ _ _ _ _ _ _ _ _ _ _ _ _ _ _ _ _ _ _ _ _ _ _ _ _ _ _ _ ?_
    exact sr_end HR6.out b6 HTF.out (fun _ S q _ _ _ => ⟨by rw [sp_4 q, if_neg HE.out], by decide⟩) HBB.out
  · have e : (cf i).kd = 3 := by simpa using HPB.out
    have HE := hid1 e
    clear e
    go_wp2_with fail
    refine hQ.out _ 51 true _ _ _ _ _ _ _ _ _ _ _ _ _ _ _ _ _ _ _ _ _ _ _ _ _ _ _ _ _ _ _ _ _ _ _ _ _ _ _ _ _ _ _ _ _ _ _ _ _ _ _ _ _ _ _ _ _ _ _ _ _ _ _ _ _ _ _ _ _ _ _ _ _ _ _ _ _ _ _ _ _ _ _ _ _ _ _ _ _ _ _ _ _ _ _ _ _ _ _ _ _ _ _ _ _ _ _ _ _ _ _ _ _ _ _ _ _ _ _ _ _ _ _ _ _ _ _ _ _ _ _ _ _ _ _ _ _ _ _ _ _ _ _ _ _ _ _ _ _ _ _ _ _ _ _ _ _ ?_
    exact sr_end HR6.out b6 HTF.out (fun _ S q _ _ _ => ⟨by rw [sp_4 q, if_pos HE.out], by decide⟩) HBB.out

end Go.Proofs.Ytkodihmjjiadnaa.Nn
/- NETSPOILT: spoilt's cases: a window that does not fit, a weight, a bias; nothing. -/
namespace Go.Proofs.Ytkodihmjjiadnaa.Nn
open Go.RowKit

theorem setp_map {f g : Nat → Int} {n p : Nat} {y : Int} (c : Int → Value) (hp : p < n) (hg : ∀ j, j < n → g j = if j = p then y else f j) : (((List.range n).map f).map c).set p (c y) = ((List.range n).map g).map c := by
  apply List.ext_getElem?
  intro k
  rw [List.getElem?_set]
  by_cases hk : p = k
  · subst hk
    rw [if_pos rfl, if_pos (by simp; omega)]
    simp [hp, hg p hp]
  · rw [if_neg hk]
    by_cases hkn : k < n
    · simp [hkn, hg k hkn, show ¬ k = p by omega]
    · simp [hkn]
/-- A weight is set. -/
theorem Tm.wset {W : World} {base G cc M i p q : Nat} {cf : Nat → Ly} (y : Int) (h : Tm W base G cc M cf) (hi : i < M) (hp : p < (cf i).mw) (hq : (cf i).aw = some ⟨q, 0, none⟩) : Tf (W.setCell ⟨q, p, none⟩ (.int .i8 y)) base G cc M (sn cf i { cf i with ws := fun j => if j = p then y else (cf i).ws j }) := by
  obtain ⟨h1, h2, h3⟩ := h
  have lk := (h2 i hi).1
  have ob : (Value.slice (bigL (cf i)).aw (bigL (cf i)).mw (bigL (cf i)).cw).ownBlock = some q := by show (Value.slice (cf i).aw _ _).ownBlock = some q; rw [hq]; rfl
  refine ⟨?_, sn_at (P := fun L => ∃ B, Lo (W.setCell ⟨q, p, none⟩ (.int .i8 y)) base B ∧ Cov B L) ?_ fun j hj hne => ?_⟩
  · rw [lyLs_same (L := { cf i with ws := fun j => if j = p then y else (cf i).ws j }) rfl]
    exact own_setNe h1 (ownNe h1 lk.1 (by decide) ob)
  · refine ⟨{ bigL (cf i) with ws := fun j => if j = p then y else (bigL (cf i)).ws j }, ⟨?_, own_setNe lk.2.1 (ownNe lk.2.1 lk.1 (by decide) ob), own_setNe lk.2.2 (ownNe lk.2.2 lk.1 (by decide) ob)⟩, ?_⟩
    · have l1 := lk.1
      rw [show (bigL (cf i)).aw = some ⟨q, 0, none⟩ from hq] at l1
      have := (l1.stored p (.int .i8 y)).1
      unfold i8L at this
      rw [setp_map (Value.int .i8) (by show p < (cf i).mw + 2; omega) (fun _ _ => rfl)] at this
      show (W.setCell _ _).ownsRow base _ 1 (.slice (cf i).aw _ _) _ _
      rw [hq]
      exact this
    · obtain ⟨⟨a1, a2, a3⟩, c2, c3, m⟩ := cov_big (h2 i hi).2.1 (h2 i hi).2.2.1 (h2 i hi).2.2.2
      exact ⟨⟨a1, a2, fun j hj => by show (if j = p then y else _) = (if j = p then y else _); rw [a3 j hj]⟩, c2, c3, m⟩
  · obtain ⟨l, b1, b2, b3⟩ := h2 j hj
    refine ⟨bigL (cf j), ⟨own_setNe l.1 fun x hx e => (h3 j hj i hi hne).1 x (by rw [← hx]; unfold obW; cases (cf j).aw <;> rfl) (by rw [e]; unfold obW; rw [hq]; rfl), own_setNe l.2.1 (ownNe l.2.1 lk.1 (by decide) ob), own_setNe l.2.2 (ownNe l.2.2 lk.1 (by decide) ob)⟩, cov_big b1 b2 b3⟩
theorem Tm.bset {W : World} {base G cc M i p q : Nat} {cf : Nat → Ly} (y : Int) (h : Tm W base G cc M cf) (hi : i < M) (hp : p < (cf i).mb) (hq : (cf i).ab = some ⟨q, 0, none⟩) : Tf (W.setCell ⟨q, p, none⟩ (.int .i64 y)) base G cc M (sn cf i { cf i with bs := fun j => if j = p then y else (cf i).bs j }) := by
  obtain ⟨h1, h2, h3⟩ := h
  have lk := (h2 i hi).1
  have ob : (Value.slice (bigL (cf i)).ab (bigL (cf i)).mb (bigL (cf i)).cb).ownBlock = some q := by show (Value.slice (cf i).ab _ _).ownBlock = some q; rw [hq]; rfl
  refine ⟨?_, sn_at (P := fun L => ∃ B, Lo (W.setCell ⟨q, p, none⟩ (.int .i64 y)) base B ∧ Cov B L) ?_ fun j hj hne => ?_⟩
  · rw [lyLs_same (L := { cf i with bs := fun j => if j = p then y else (cf i).bs j }) rfl]
    exact own_setNe h1 (ownNe h1 lk.2.2 (by decide) ob)
  · refine ⟨{ bigL (cf i) with bs := fun j => if j = p then y else (bigL (cf i)).bs j }, ⟨own_setNe lk.1 (ownNe lk.1 lk.2.2 (by decide) ob), own_setNe lk.2.1 (ownNe lk.2.1 lk.2.2 (by decide) ob), ?_⟩, ?_⟩
    · have l1 := lk.2.2
      rw [show (bigL (cf i)).ab = some ⟨q, 0, none⟩ from hq] at l1
      have := (l1.stored p (.int .i64 y)).1
      unfold i64L at this
      rw [setp_map (Value.int .i64) (by show p < (cf i).mb + 2; omega) (fun _ _ => rfl)] at this
      show (W.setCell _ _).ownsRow base _ 1 (.slice (cf i).ab _ _) _ _
      rw [hq]
      exact this
    · obtain ⟨c1, c2, ⟨a1, a2, a3⟩, m⟩ := cov_big (h2 i hi).2.1 (h2 i hi).2.2.1 (h2 i hi).2.2.2
      exact ⟨c1, c2, ⟨a1, a2, fun j hj => by show (if j = p then y else _) = (if j = p then y else _); rw [a3 j hj]⟩, m⟩
  · obtain ⟨l, b1, b2, b3⟩ := h2 j hj
    refine ⟨bigL (cf j), ⟨own_setNe l.1 (ownNe l.1 lk.2.2 (by decide) ob), own_setNe l.2.1 (ownNe l.2.1 lk.2.2 (by decide) ob), own_setNe l.2.2 fun x hx e => (h3 j hj i hi hne).2.1 x (by rw [← hx]; unfold obB; cases (cf j).ab <;> rfl) (by rw [e]; unfold obB; rw [hq]; rfl)⟩, cov_big b1 b2 b3⟩
attribute [local go_sem ↓] Go.wp_at_zero Go.wp_at_succ
set_option maxHeartbeats 64000000 in
set_option maxRecDepth 100000 in
theorem so_10 (u0 u1 u2 u3 u4 u5 u7 u8 u13 u14 u15 u16 u17 u18 u19 u20 u21 u22 u23 u24 u25 u26 u27 u28 u29 u31 u32 u33 u34 u35 u36 u37 u38 u39 u40 u41 u42 u43 u44 u45 u46 u47 u48 u49 u50 u51 u52 u53 u54 u55 u56 u57 u58 u59 u60 u61 u62 u63 u64 u65 u66 u67 u68 u69 u70 u71 u72 u73 u74 u75 u76 u77 u78 u79 u80 u81 u82 u83 u84 u85 u86 u87 u88 u89 u90 u91 u92 u93 u94 u95 u96 u97 u98 u99 u100 u101 u102 u103 u104 u105 u106 u107 u108 u109 u110 u111 u112 u113 u114 u115 u116 u117 u118 u119 u120 u121 u122 u123 u124 u125 u126 u127 u128 u129 u130 u131 u132 u133 u134 u135 u136 u137 u138 u139 u140 u141 u142 u143 u144 u145 u146 u147 u148 u149 u150 u151 u152 u153 u154 u155 u156 u157 u158 u159 u160 u161 u162 u163 u164 u165 u166 u167 u168 u169 u170 u171 u172 u173 u174 u175 u176 u177 u178 u179 u180 u181 u182 u183 u184 u185 u186 u187 : Value) (g6 g9 G cc M i : Nat) (nm : ByteArray) (H V C : Int) (cf : Nat → Ly) (la pb : Bool) (w0 X0 : World) (Q : Exit → Act → World → Prop)
    (HSB : Hid (Sb X0 w0 g6 g9 G cc M i nm H V C cf)) (_HPB : Hid (((cf i).kd == 3) = pb)) 
    (hQ : Hid (∀ (X : World) (E : Int) (b : Bool) (v31 v32 v33 v34 v35 v36 v37 v38 v39 v40 v41 v42 v43 v44 v45 v46 v47 v48 v49 v50 v51 v52 v53 v54 v55 v56 v57 v58 v59 v60 v61 v62 v63 v64 v65 v66 v67 v68 v69 v70 v71 v72 v73 v74 v75 v76 v77 v78 v79 v80 v81 v82 v83 v84 v85 v86 v87 v88 v89 v90 v91 v92 v93 v94 v95 v96 v97 v98 v99 v100 v101 v102 v103 v104 v105 v106 v107 v108 v109 v110 v111 v112 v113 v114 v115 v116 v117 v118 v119 v120 v121 v122 v123 v124 v125 v126 v127 v128 v129 v130 v131 v132 v133 v134 v135 v136 v137 v138 v139 v140 v141 v142 v143 v144 v145 v146 v147 v148 v149 v150 v151 v152 v153 v154 v155 v156 v157 v158 v159 v160 v161 v162 v163 v164 v165 v166 v167 v168 v169 v170 v171 v172 v173 v174 v175 v176 v177 v178 v179 v180 v181 v182 v183 v184 v185 v186 v187 : Value), Sr X w0 g6 G cc M i nm H V C cf la E b → Q .ret ⟨#[u0, u1, u2, u3, u4, u5, .pointer (some ⟨g6, 0, none⟩), .int .i64 E, .bool b, .pointer (some ⟨g9, 0, none⟩), .pointer (some ⟨G, i * 15, none⟩), .bool pb, .bool la, u13, u14, u15, u16, u17, u18, u19, u20, u21, u22, u23, u24, u25, u26, u27, u28, u29, .int .i64 10, v31, v32, v33, v34, v35, v36, v37, v38, v39, v40, v41, v42, v43, v44, v45, v46, v47, v48, v49, v50, v51, v52, v53, v54, v55, v56, v57, v58, v59, v60, v61, v62, v63, v64, v65, v66, v67, v68, v69, v70, v71, v72, v73, v74, v75, v76, v77, v78, v79, v80, v81, v82, v83, v84, v85, v86, v87, v88, v89, v90, v91, v92, v93, v94, v95, v96, v97, v98, v99, v100, v101, v102, v103, v104, v105, v106, v107, v108, v109, v110, v111, v112, v113, v114, v115, v116, v117, v118, v119, v120, v121, v122, v123, v124, v125, v126, v127, v128, v129, v130, v131, v132, v133, v134, v135, v136, v137, v138, v139, v140, v141, v142, v143, v144, v145, v146, v147, v148, v149, v150, v151, v152, v153, v154, v155, v156, v157, v158, v159, v160, v161, v162, v163, v164, v165, v166, v167, v168, v169, v170, v171, v172, v173, v174, v175, v176, v177, v178, v179, v180, v181, v182, v183, v184, v185, v186, v187], []⟩ X)) :
    Code.wp Try.prog csB0 Q ⟨#[u0, u1, u2, u3, u4, u5, .pointer (some ⟨g6, 0, none⟩), u7, u8, .pointer (some ⟨g9, 0, none⟩), .pointer (some ⟨G, i * 15, none⟩), .bool pb, .bool la, u13, u14, u15, u16, u17, u18, u19, u20, u21, u22, u23, u24, u25, u26, u27, u28, u29, .int .i64 10, u31, u32, u33, u34, u35, u36, u37, u38, u39, u40, u41, u42, u43, u44, u45, u46, u47, u48, u49, u50, u51, u52, u53, u54, u55, u56, u57, u58, u59, u60, u61, u62, u63, u64, u65, u66, u67, u68, u69, u70, u71, u72, u73, u74, u75, u76, u77, u78, u79, u80, u81, u82, u83, u84, u85, u86, u87, u88, u89, u90, u91, u92, u93, u94, u95, u96, u97, u98, u99, u100, u101, u102, u103, u104, u105, u106, u107, u108, u109, u110, u111, u112, u113, u114, u115, u116, u117, u118, u119, u120, u121, u122, u123, u124, u125, u126, u127, u128, u129, u130, u131, u132, u133, u134, u135, u136, u137, u138, u139, u140, u141, u142, u143, u144, u145, u146, u147, u148, u149, u150, u151, u152, u153, u154, u155, u156, u157, u158, u159, u160, u161, u162, u163, u164, u165, u166, u167, u168, u169, u170, u171, u172, u173, u174, u175, u176, u177, u178, u179, u180, u181, u182, u183, u184, u185, u186, u187], []⟩ X0 := by
  conv => arg 2; whnf
  obtain ⟨hT, h9, h6, b6, b9, h69, hi, hM, BX⟩ := HSB.out
  have TF := hT.tf
  have nG9 : G ≠ g9 := fun e => rowNe h9 hT.1 (by decide) rfl e.symm
  have nG6 : G ≠ g6 := fun e => rowNe h6 hT.1 (by decide) rfl e.symm
  have n9G : g9 ≠ G := fun e => nG9 e.symm
  have n6G : g6 ≠ G := fun e => nG6 e.symm
  have n69 : g6 ≠ g9 := h69
  have n96 : g9 ≠ g6 := fun e => h69 e.symm
  have bG : w0.heap.size ≤ G := (hT.1.lt G rfl).1
  have n0 : X0.cell? ⟨g9, 0, none⟩ = some (.string nm) := h9.cell (i := 0) (by decide)
  have n1 : X0.cell? ⟨g9, 1, none⟩ = some (.int .i64 H) := h9.cell (i := 1) (by decide)
  have n2 : X0.cell? ⟨g9, 2, none⟩ = some (.int .i64 V) := h9.cell (i := 2) (by decide)
  have n3 : X0.cell? ⟨g9, 3, none⟩ = some (.int .i64 C) := h9.cell (i := 3) (by decide)
  have n4 : X0.cell? ⟨g9, 4, none⟩ = some (.slice (some ⟨G, 0, none⟩) M cc) := h9.cell (i := 4) (by decide)
  have r0 : X0.cell? ⟨g6, 0, none⟩ = some (.string ⟨#[]⟩) := h6.cell (i := 0) (by decide)
  have r1 : X0.cell? ⟨g6, 1, none⟩ = some (.int .i64 0) := h6.cell (i := 1) (by decide)
  have r2 : X0.cell? ⟨g6, 2, none⟩ = some (.int .i64 0) := h6.cell (i := 2) (by decide)
  have r3 : X0.cell? ⟨g6, 3, none⟩ = some (.int .i64 0) := h6.cell (i := 3) (by decide)
  have r4 : X0.cell? ⟨g6, 4, none⟩ = some (.slice none 0 0) := h6.cell (i := 4) (by decide)
  have f0 := h6.frozen 0
  have f1 := h6.frozen 1
  have f2 := h6.frozen 2
  have f3 := h6.frozen 3
  have f4 := h6.frozen 4
  have ck : X0.cell? ⟨G, i * 15, none⟩ = some (.int .i64 (cf i).kd) := TF.cells (c := 0) hi (by decide)
  obtain ⟨tb, htb⟩ : ∃ tb, ((cf i).kd != 1) = tb := ⟨_, rfl⟩
  have HTB := hid1 htb
  cases tb
  · have e : (cf i).kd = 1 := by simpa using htb
    have HE := hid1 e
    clear e
    have c3 : X0.cell? ⟨G, i * 15 + 3, none⟩ = some (.int .i64 (cf i).r) := TF.cells (c := 3) hi (by decide)
    have c7 : X0.cell? ⟨G, i * 15 + 7, none⟩ = some (.int .i64 (cf i).t) := TF.cells (c := 7) hi (by decide)
    have c9 : X0.cell? ⟨G, i * 15 + 9, none⟩ = some (.int .i64 (cf i).b) := TF.cells (c := 9) hi (by decide)
    have c11 : X0.cell? ⟨G, i * 15 + 11, none⟩ = some (.int .i64 (cf i).bd) := TF.cells (c := 11) hi (by decide)
    have z3 : X0.frozen? ⟨G, i * 15 + 3, none⟩ = false := hT.1.frozenAt _
    have z7 : X0.frozen? ⟨G, i * 15 + 7, none⟩ = false := hT.1.frozenAt _
    have z9 : X0.frozen? ⟨G, i * 15 + 9, none⟩ = false := hT.1.frozenAt _
    have z11 : X0.frozen? ⟨G, i * 15 + 11, none⟩ = false := hT.1.frozenAt _
    have HTF : Hid (Tf ((((X0.setCell ⟨G, i * 15 + 3, none⟩ (.int .i64 15)).setCell ⟨G, i * 15 + 7, none⟩ (.int .i64 0)).setCell ⟨G, i * 15 + 9, none⟩ (.int .i64 0)).setCell ⟨G, i * 15 + 11, none⟩ (.int .i64 0)) w0.heap.size G cc M (sn cf i (sp10L (cf i)))) := hid1 (by
      have t1 := TF.cell (c := 3) (u := .int .i64 15) (L' := { cf i with r := 15 }) hi (by decide) rfl (fun _ q => q)
      have t2 := t1.cell (c := 7) (u := .int .i64 0) (L' := { cf i with r := 15, t := 0 }) hi (by decide) (by rw [sn_eq]; rfl) (fun _ q => by rw [sn_eq] at q; exact q)
      have t3 := t2.cell (c := 9) (u := .int .i64 0) (L' := { cf i with r := 15, t := 0, b := 0 }) hi (by decide) (by rw [sn_eq]; rfl) (fun _ q => by rw [sn_eq] at q; exact q)
      have t4 := t3.cell (c := 11) (u := .int .i64 0) (L' := sp10L (cf i)) hi (by decide) (by rw [sn_eq]; rfl) (fun _ q => by rw [sn_eq] at q; exact q)
      rw [sn_sn, sn_sn, sn_sn] at t4
      exact t4)
    have HR6 : Hid (((((X0.setCell ⟨G, i * 15 + 3, none⟩ (.int .i64 15)).setCell ⟨G, i * 15 + 7, none⟩ (.int .i64 0)).setCell ⟨G, i * 15 + 9, none⟩ (.int .i64 0)).setCell ⟨G, i * 15 + 11, none⟩ (.int .i64 0)).rowIs g6 28 5 (netF ⟨#[]⟩ 0 0 0 (.slice none 0 0))) := hid1 ((((h6.setOther n6G _).setOther n6G _).setOther n6G _).setOther n6G _)
    have HBB : Hid (Below w0.heap.size w0 ((((X0.setCell ⟨G, i * 15 + 3, none⟩ (.int .i64 15)).setCell ⟨G, i * 15 + 7, none⟩ (.int .i64 0)).setCell ⟨G, i * 15 + 9, none⟩ (.int .i64 0)).setCell ⟨G, i * 15 + 11, none⟩ (.int .i64 0))) := hid1 (bl_set (bl_set (bl_set (bl_set BX bG _) bG _) bG _) bG _)
    clear hT TF h9 h6 h69 BX
    go_wp2_with fail
    refine hQ.out _ 32 true _ _ _ _ _ _ _ _ _ _ _ _ _ _ _ _ _ _ _ _ _ _ _ _ _ _ _ _ _ _ _ _ _ _ _ _ _ _ _ _ _ _ _ _ _ _ _ _ _ _ _ _ _ _ _ _ _ _ _ _ _ _ _ _ _ _ _ _ _ _ _ _ _ _ _ _ _ _ _ _ _ _ _ _ _ _ _ _ _ _ _ _ _ _ _ _ _ _ _ _ _ _ _ _ _ _ _ _ _ _ _ _ _ _ _ _ _ _ _ _ _ _ _ _ _ _ _ _ _ _ _ _ _ _ _ _ _ _ _ _ _ _ _ _ _ _ _ _ _ _ _ _ _ _ _ _ _ ?_
    exact sr_end HR6.out b6 HTF.out (fun _ S q _ _ hh => ⟨sp_10 q HE.out hh, by decide⟩) HBB.out
  · have HTF : Hid (Tf X0 w0.heap.size G cc M (sn cf i (cf i))) := hid1 (by rw [sn_id]; exact TF)
    have HR6 := hid1 h6
    have HBB := hid1 BX
    clear hT TF h9 h6 h69 BX
    go_wp2_with fail
    refine hQ.out _ 0 false _ _ _ _ _ _ _ _ _ _ _ _ _ _ _ _ _ _ _ _ _ _ _ _ _ _ _ _ _ _ _ _ _ _ _ _ _ _ _ _ _ _ _ _ _ _ _ _ _ _ _ _ _ _ _ _ _ _ _ _ _ _ _ _ _ _ _ _ _ _ _ _ _ _ _ _ _ _ _ _ _ _ _ _ _ _ _ _ _ _ _ _ _ _ _ _ _ _ _ _ _ _ _ _ _ _ _ _ _ _ _ _ _ _ _ _ _ _ _ _ _ _ _ _ _ _ _ _ _ _ _ _ _ _ _ _ _ _ _ _ _ _ _ _ _ _ _ _ _ _ _ _ _ _ _ _ _ ?_
    exact sr_end HR6.out b6 HTF.out (fun q => by cases q) HBB.out

attribute [local go_sem ↓] Go.wp_at_zero Go.wp_at_succ
set_option maxHeartbeats 64000000 in
set_option maxRecDepth 100000 in
theorem so_n (u0 u1 u2 u3 u4 u5 u7 u8 u13 u14 u15 u16 u17 u18 u19 u20 u21 u22 u23 u24 u25 u26 u27 u28 u29 u31 u32 u33 u34 u35 u36 u37 u38 u39 u40 u41 u42 u43 u44 u45 u46 u47 u48 u49 u50 u51 u52 u53 u54 u55 u56 u57 u58 u59 u60 u61 u62 u63 u64 u65 u66 u67 u68 u69 u70 u71 u72 u73 u74 u75 u76 u77 u78 u79 u80 u81 u82 u83 u84 u85 u86 u87 u88 u89 u90 u91 u92 u93 u94 u95 u96 u97 u98 u99 u100 u101 u102 u103 u104 u105 u106 u107 u108 u109 u110 u111 u112 u113 u114 u115 u116 u117 u118 u119 u120 u121 u122 u123 u124 u125 u126 u127 u128 u129 u130 u131 u132 u133 u134 u135 u136 u137 u138 u139 u140 u141 u142 u143 u144 u145 u146 u147 u148 u149 u150 u151 u152 u153 u154 u155 u156 u157 u158 u159 u160 u161 u162 u163 u164 u165 u166 u167 u168 u169 u170 u171 u172 u173 u174 u175 u176 u177 u178 u179 u180 u181 u182 u183 u184 u185 u186 u187 : Value) (g6 g9 G cc M i : Nat) (nm : ByteArray) (H V C : Int) (cf : Nat → Ly) (la pb : Bool) (w0 X0 : World) (t : Int) (Q : Exit → Act → World → Prop)
    (_HSB : Hid (Sb X0 w0 g6 g9 G cc M i nm H V C cf)) (_HPB : Hid (((cf i).kd == 3) = pb)) (e0 : (t == 0) = false) (e1 : (t == 1) = false) (e2 : (t == 2) = false) (e3 : (t == 3) = false) (e4 : (t == 4) = false) (e5 : (t == 5) = false) (e6 : (t == 6) = false) (e7 : (t == 7) = false) (e8 : (t == 8) = false) (e9 : (t == 9) = false) (e10 : (t == 10) = false)
    (hN : Hid (∀ (v31 v32 v33 v34 v35 v36 v37 v38 v39 v40 v41 v42 v43 v44 v45 v46 v47 v48 v49 v50 v51 v52 v53 v54 v55 v56 v57 v58 v59 v60 v61 v62 v63 v64 v65 v66 v67 v68 v69 v70 v71 v72 v73 v74 v75 v76 v77 v78 v79 v80 v81 v82 v83 v84 v85 v86 v87 v88 v89 v90 v91 v92 v93 v94 v95 v96 v97 v98 v99 v100 v101 v102 v103 v104 v105 v106 v107 v108 v109 v110 v111 v112 v113 v114 v115 v116 v117 v118 v119 v120 v121 v122 v123 v124 v125 v126 v127 v128 v129 v130 v131 v132 v133 v134 v135 v136 v137 v138 v139 v140 v141 v142 v143 v144 v145 v146 v147 v148 v149 v150 v151 v152 v153 v154 v155 v156 v157 v158 v159 v160 v161 v162 v163 v164 v165 v166 v167 v168 v169 v170 v171 v172 v173 v174 v175 v176 v177 v178 v179 v180 v181 v182 v183 v184 v185 v186 v187 : Value), Q .normal ⟨#[u0, u1, u2, u3, u4, u5, .pointer (some ⟨g6, 0, none⟩), u7, u8, .pointer (some ⟨g9, 0, none⟩), .pointer (some ⟨G, i * 15, none⟩), .bool pb, .bool la, u13, u14, u15, u16, u17, u18, u19, u20, u21, u22, u23, u24, u25, u26, u27, u28, u29, .int .i64 t, v31, v32, v33, v34, v35, v36, v37, v38, v39, v40, v41, v42, v43, v44, v45, v46, v47, v48, v49, v50, v51, v52, v53, v54, v55, v56, v57, v58, v59, v60, v61, v62, v63, v64, v65, v66, v67, v68, v69, v70, v71, v72, v73, v74, v75, v76, v77, v78, v79, v80, v81, v82, v83, v84, v85, v86, v87, v88, v89, v90, v91, v92, v93, v94, v95, v96, v97, v98, v99, v100, v101, v102, v103, v104, v105, v106, v107, v108, v109, v110, v111, v112, v113, v114, v115, v116, v117, v118, v119, v120, v121, v122, v123, v124, v125, v126, v127, v128, v129, v130, v131, v132, v133, v134, v135, v136, v137, v138, v139, v140, v141, v142, v143, v144, v145, v146, v147, v148, v149, v150, v151, v152, v153, v154, v155, v156, v157, v158, v159, v160, v161, v162, v163, v164, v165, v166, v167, v168, v169, v170, v171, v172, v173, v174, v175, v176, v177, v178, v179, v180, v181, v182, v183, v184, v185, v186, v187], []⟩ X0))
    (_hQ : Hid (∀ (X : World) (E : Int) (b : Bool) (v31 v32 v33 v34 v35 v36 v37 v38 v39 v40 v41 v42 v43 v44 v45 v46 v47 v48 v49 v50 v51 v52 v53 v54 v55 v56 v57 v58 v59 v60 v61 v62 v63 v64 v65 v66 v67 v68 v69 v70 v71 v72 v73 v74 v75 v76 v77 v78 v79 v80 v81 v82 v83 v84 v85 v86 v87 v88 v89 v90 v91 v92 v93 v94 v95 v96 v97 v98 v99 v100 v101 v102 v103 v104 v105 v106 v107 v108 v109 v110 v111 v112 v113 v114 v115 v116 v117 v118 v119 v120 v121 v122 v123 v124 v125 v126 v127 v128 v129 v130 v131 v132 v133 v134 v135 v136 v137 v138 v139 v140 v141 v142 v143 v144 v145 v146 v147 v148 v149 v150 v151 v152 v153 v154 v155 v156 v157 v158 v159 v160 v161 v162 v163 v164 v165 v166 v167 v168 v169 v170 v171 v172 v173 v174 v175 v176 v177 v178 v179 v180 v181 v182 v183 v184 v185 v186 v187 : Value), Sr X w0 g6 G cc M i nm H V C cf la E b → Q .ret ⟨#[u0, u1, u2, u3, u4, u5, .pointer (some ⟨g6, 0, none⟩), .int .i64 E, .bool b, .pointer (some ⟨g9, 0, none⟩), .pointer (some ⟨G, i * 15, none⟩), .bool pb, .bool la, u13, u14, u15, u16, u17, u18, u19, u20, u21, u22, u23, u24, u25, u26, u27, u28, u29, .int .i64 t, v31, v32, v33, v34, v35, v36, v37, v38, v39, v40, v41, v42, v43, v44, v45, v46, v47, v48, v49, v50, v51, v52, v53, v54, v55, v56, v57, v58, v59, v60, v61, v62, v63, v64, v65, v66, v67, v68, v69, v70, v71, v72, v73, v74, v75, v76, v77, v78, v79, v80, v81, v82, v83, v84, v85, v86, v87, v88, v89, v90, v91, v92, v93, v94, v95, v96, v97, v98, v99, v100, v101, v102, v103, v104, v105, v106, v107, v108, v109, v110, v111, v112, v113, v114, v115, v116, v117, v118, v119, v120, v121, v122, v123, v124, v125, v126, v127, v128, v129, v130, v131, v132, v133, v134, v135, v136, v137, v138, v139, v140, v141, v142, v143, v144, v145, v146, v147, v148, v149, v150, v151, v152, v153, v154, v155, v156, v157, v158, v159, v160, v161, v162, v163, v164, v165, v166, v167, v168, v169, v170, v171, v172, v173, v174, v175, v176, v177, v178, v179, v180, v181, v182, v183, v184, v185, v186, v187], []⟩ X)) :
    Code.wp Try.prog csB0 Q ⟨#[u0, u1, u2, u3, u4, u5, .pointer (some ⟨g6, 0, none⟩), u7, u8, .pointer (some ⟨g9, 0, none⟩), .pointer (some ⟨G, i * 15, none⟩), .bool pb, .bool la, u13, u14, u15, u16, u17, u18, u19, u20, u21, u22, u23, u24, u25, u26, u27, u28, u29, .int .i64 t, u31, u32, u33, u34, u35, u36, u37, u38, u39, u40, u41, u42, u43, u44, u45, u46, u47, u48, u49, u50, u51, u52, u53, u54, u55, u56, u57, u58, u59, u60, u61, u62, u63, u64, u65, u66, u67, u68, u69, u70, u71, u72, u73, u74, u75, u76, u77, u78, u79, u80, u81, u82, u83, u84, u85, u86, u87, u88, u89, u90, u91, u92, u93, u94, u95, u96, u97, u98, u99, u100, u101, u102, u103, u104, u105, u106, u107, u108, u109, u110, u111, u112, u113, u114, u115, u116, u117, u118, u119, u120, u121, u122, u123, u124, u125, u126, u127, u128, u129, u130, u131, u132, u133, u134, u135, u136, u137, u138, u139, u140, u141, u142, u143, u144, u145, u146, u147, u148, u149, u150, u151, u152, u153, u154, u155, u156, u157, u158, u159, u160, u161, u162, u163, u164, u165, u166, u167, u168, u169, u170, u171, u172, u173, u174, u175, u176, u177, u178, u179, u180, u181, u182, u183, u184, u185, u186, u187], []⟩ X0 := by
  conv => arg 2; whnf
  go_wp2_with fail
  exact hN.out _ _ _ _ _ _ _ _ _ _ _ _ _ _ _ _ _ _ _ _ _ _ _ _ _ _ _ _ _ _ _ _ _ _ _ _ _ _ _ _ _ _ _ _ _ _ _ _ _ _ _ _ _ _ _ _ _ _ _ _ _ _ _ _ _ _ _ _ _ _ _ _ _ _ _ _ _ _ _ _ _ _ _ _ _ _ _ _ _ _ _ _ _ _ _ _ _ _ _ _ _ _ _ _ _ _ _ _ _ _ _ _ _ _ _ _ _ _ _ _ _ _ _ _ _ _ _ _ _ _ _ _ _ _ _ _ _ _ _ _ _ _ _ _ _ _ _ _ _ _ _ _ _ _ _ _ _ 
attribute [local go_sem ↓] Go.wp_at_zero Go.wp_at_succ
set_option maxHeartbeats 64000000 in
set_option maxRecDepth 100000 in
theorem so_9 (u0 u1 u2 u3 u4 u5 u7 u8 u13 u14 u15 u16 u17 u18 u19 u20 u21 u22 u23 u24 u25 u26 u27 u28 u29 u31 u32 u33 u34 u35 u36 u37 u38 u39 u40 u41 u42 u43 u44 u45 u46 u47 u48 u49 u50 u51 u52 u53 u54 u55 u56 u57 u58 u59 u60 u61 u62 u63 u64 u65 u66 u67 u68 u69 u70 u71 u72 u73 u74 u75 u76 u77 u78 u79 u80 u81 u82 u83 u84 u85 u86 u87 u88 u89 u90 u91 u92 u93 u94 u95 u96 u97 u98 u99 u100 u101 u102 u103 u104 u105 u106 u107 u108 u109 u110 u111 u112 u113 u114 u115 u116 u117 u118 u119 u120 u121 u122 u123 u124 u125 u126 u127 u128 u129 u130 u131 u132 u133 u134 u135 u136 u137 u138 u139 u140 u141 u142 u143 u144 u145 u146 u147 u148 u149 u150 u151 u152 u153 u154 u155 u156 u157 u158 u159 u160 u161 u162 u163 u164 u165 u166 u167 u168 u169 u170 u171 u172 u173 u174 u175 u176 u177 u178 u179 u180 u181 u182 u183 u184 u185 u186 u187 : Value) (g6 g9 G cc M i : Nat) (nm : ByteArray) (H V C : Int) (cf : Nat → Ly) (la pb : Bool) (w0 X0 : World) (Q : Exit → Act → World → Prop)
    (HSB : Hid (Sb X0 w0 g6 g9 G cc M i nm H V C cf)) (_HPB : Hid (((cf i).kd == 3) = pb)) (HMB : Hid (la = true → 1 ≤ (cf i).mb))
    (hQ : Hid (∀ (X : World) (E : Int) (b : Bool) (v31 v32 v33 v34 v35 v36 v37 v38 v39 v40 v41 v42 v43 v44 v45 v46 v47 v48 v49 v50 v51 v52 v53 v54 v55 v56 v57 v58 v59 v60 v61 v62 v63 v64 v65 v66 v67 v68 v69 v70 v71 v72 v73 v74 v75 v76 v77 v78 v79 v80 v81 v82 v83 v84 v85 v86 v87 v88 v89 v90 v91 v92 v93 v94 v95 v96 v97 v98 v99 v100 v101 v102 v103 v104 v105 v106 v107 v108 v109 v110 v111 v112 v113 v114 v115 v116 v117 v118 v119 v120 v121 v122 v123 v124 v125 v126 v127 v128 v129 v130 v131 v132 v133 v134 v135 v136 v137 v138 v139 v140 v141 v142 v143 v144 v145 v146 v147 v148 v149 v150 v151 v152 v153 v154 v155 v156 v157 v158 v159 v160 v161 v162 v163 v164 v165 v166 v167 v168 v169 v170 v171 v172 v173 v174 v175 v176 v177 v178 v179 v180 v181 v182 v183 v184 v185 v186 v187 : Value), Sr X w0 g6 G cc M i nm H V C cf la E b → Q .ret ⟨#[u0, u1, u2, u3, u4, u5, .pointer (some ⟨g6, 0, none⟩), .int .i64 E, .bool b, .pointer (some ⟨g9, 0, none⟩), .pointer (some ⟨G, i * 15, none⟩), .bool pb, .bool la, u13, u14, u15, u16, u17, u18, u19, u20, u21, u22, u23, u24, u25, u26, u27, u28, u29, .int .i64 9, v31, v32, v33, v34, v35, v36, v37, v38, v39, v40, v41, v42, v43, v44, v45, v46, v47, v48, v49, v50, v51, v52, v53, v54, v55, v56, v57, v58, v59, v60, v61, v62, v63, v64, v65, v66, v67, v68, v69, v70, v71, v72, v73, v74, v75, v76, v77, v78, v79, v80, v81, v82, v83, v84, v85, v86, v87, v88, v89, v90, v91, v92, v93, v94, v95, v96, v97, v98, v99, v100, v101, v102, v103, v104, v105, v106, v107, v108, v109, v110, v111, v112, v113, v114, v115, v116, v117, v118, v119, v120, v121, v122, v123, v124, v125, v126, v127, v128, v129, v130, v131, v132, v133, v134, v135, v136, v137, v138, v139, v140, v141, v142, v143, v144, v145, v146, v147, v148, v149, v150, v151, v152, v153, v154, v155, v156, v157, v158, v159, v160, v161, v162, v163, v164, v165, v166, v167, v168, v169, v170, v171, v172, v173, v174, v175, v176, v177, v178, v179, v180, v181, v182, v183, v184, v185, v186, v187], []⟩ X)) :
    Code.wp Try.prog csB0 Q ⟨#[u0, u1, u2, u3, u4, u5, .pointer (some ⟨g6, 0, none⟩), u7, u8, .pointer (some ⟨g9, 0, none⟩), .pointer (some ⟨G, i * 15, none⟩), .bool pb, .bool la, u13, u14, u15, u16, u17, u18, u19, u20, u21, u22, u23, u24, u25, u26, u27, u28, u29, .int .i64 9, u31, u32, u33, u34, u35, u36, u37, u38, u39, u40, u41, u42, u43, u44, u45, u46, u47, u48, u49, u50, u51, u52, u53, u54, u55, u56, u57, u58, u59, u60, u61, u62, u63, u64, u65, u66, u67, u68, u69, u70, u71, u72, u73, u74, u75, u76, u77, u78, u79, u80, u81, u82, u83, u84, u85, u86, u87, u88, u89, u90, u91, u92, u93, u94, u95, u96, u97, u98, u99, u100, u101, u102, u103, u104, u105, u106, u107, u108, u109, u110, u111, u112, u113, u114, u115, u116, u117, u118, u119, u120, u121, u122, u123, u124, u125, u126, u127, u128, u129, u130, u131, u132, u133, u134, u135, u136, u137, u138, u139, u140, u141, u142, u143, u144, u145, u146, u147, u148, u149, u150, u151, u152, u153, u154, u155, u156, u157, u158, u159, u160, u161, u162, u163, u164, u165, u166, u167, u168, u169, u170, u171, u172, u173, u174, u175, u176, u177, u178, u179, u180, u181, u182, u183, u184, u185, u186, u187], []⟩ X0 := by
  conv => arg 2; whnf
  obtain ⟨hT, h9, h6, b6, b9, h69, hi, hM, BX⟩ := HSB.out
  have TF := hT.tf
  have nG9 : G ≠ g9 := fun e => rowNe h9 hT.1 (by decide) rfl e.symm
  have nG6 : G ≠ g6 := fun e => rowNe h6 hT.1 (by decide) rfl e.symm
  have n9G : g9 ≠ G := fun e => nG9 e.symm
  have n6G : g6 ≠ G := fun e => nG6 e.symm
  have n69 : g6 ≠ g9 := h69
  have n96 : g9 ≠ g6 := fun e => h69 e.symm
  have bG : w0.heap.size ≤ G := (hT.1.lt G rfl).1
  have n0 : X0.cell? ⟨g9, 0, none⟩ = some (.string nm) := h9.cell (i := 0) (by decide)
  have n1 : X0.cell? ⟨g9, 1, none⟩ = some (.int .i64 H) := h9.cell (i := 1) (by decide)
  have n2 : X0.cell? ⟨g9, 2, none⟩ = some (.int .i64 V) := h9.cell (i := 2) (by decide)
  have n3 : X0.cell? ⟨g9, 3, none⟩ = some (.int .i64 C) := h9.cell (i := 3) (by decide)
  have n4 : X0.cell? ⟨g9, 4, none⟩ = some (.slice (some ⟨G, 0, none⟩) M cc) := h9.cell (i := 4) (by decide)
  have r0 : X0.cell? ⟨g6, 0, none⟩ = some (.string ⟨#[]⟩) := h6.cell (i := 0) (by decide)
  have r1 : X0.cell? ⟨g6, 1, none⟩ = some (.int .i64 0) := h6.cell (i := 1) (by decide)
  have r2 : X0.cell? ⟨g6, 2, none⟩ = some (.int .i64 0) := h6.cell (i := 2) (by decide)
  have r3 : X0.cell? ⟨g6, 3, none⟩ = some (.int .i64 0) := h6.cell (i := 3) (by decide)
  have r4 : X0.cell? ⟨g6, 4, none⟩ = some (.slice none 0 0) := h6.cell (i := 4) (by decide)
  have f0 := h6.frozen 0
  have f1 := h6.frozen 1
  have f2 := h6.frozen 2
  have f3 := h6.frozen 3
  have f4 := h6.frozen 4
  have l14 : X0.cell? ⟨G, i * 15 + 14, none⟩ = some (.slice (cf i).ab (cf i).mb (cf i).cb) := TF.cells (c := 14) hi (by decide)
  cases la
  · have HTF : Hid (Tf X0 w0.heap.size G cc M (sn cf i (cf i))) := hid1 (by rw [sn_id]; exact TF)
    have HR6 := hid1 h6
    have HBB := hid1 BX
    clear hT TF h9 h6 h69 BX
    go_wp2_with fail
    refine hQ.out _ 0 false _ _ _ _ _ _ _ _ _ _ _ _ _ _ _ _ _ _ _ _ _ _ _ _ _ _ _ _ _ _ _ _ _ _ _ _ _ _ _ _ _ _ _ _ _ _ _ _ _ _ _ _ _ _ _ _ _ _ _ _ _ _ _ _ _ _ _ _ _ _ _ _ _ _ _ _ _ _ _ _ _ _ _ _ _ _ _ _ _ _ _ _ _ _ _ _ _ _ _ _ _ _ _ _ _ _ _ _ _ _ _ _ _ _ _ _ _ _ _ _ _ _ _ _ _ _ _ _ _ _ _ _ _ _ _ _ _ _ _ _ _ _ _ _ _ _ _ _ _ _ _ _ _ _ _ _ _ ?_
    exact sr_end HR6.out b6 HTF.out (fun q => by cases q) HBB.out
  · have hm := HMB.out rfl
    have lo := (hT.2.1 i hi).1.2.2
    obtain ⟨q, eq, -, hqb, -, hqc⟩ := own_cellsS lo (by show 1 ≤ (cf i).mb + 2; omega)
    have eq : (cf i).ab = some ⟨q, 0, none⟩ := eq
    have HTF : Hid (Tf (X0.setCell ⟨q, 0, none⟩ (.int .i64 2147483647)) w0.heap.size G cc M (sn cf i (sp9L (cf i)))) := hid1 (hT.bset 2147483647 hi (by omega) eq)
    have hq0 := hqc 0 (by show 0 < ((cf i).mb + 2) * 1; omega)
    have hcs : (X0.cell? ⟨q, 0, none⟩).isSome = true := by rw [hq0]; simp [i64L]
    obtain ⟨x0, hx0⟩ := Option.isSome_iff_exists.1 hcs
    have lo2 := lo
    rw [show (bigL (cf i)).ab = some ⟨q, 0, none⟩ from eq] at lo2
    have fz : X0.frozen? ⟨q, 0, none⟩ = false := lo2.frozenAt 0
    have n6q : g6 ≠ q := rowNe h6 lo2 (by decide) rfl
    have n9q : g9 ≠ q := rowNe h9 lo2 (by decide) rfl
    have nq6 : q ≠ g6 := fun e => n6q e.symm
    have nq9 : q ≠ g9 := fun e => n9q e.symm
    have HR6 : Hid ((X0.setCell ⟨q, 0, none⟩ (.int .i64 2147483647)).rowIs g6 28 5 (netF ⟨#[]⟩ 0 0 0 (.slice none 0 0))) := hid1 (h6.setOther n6q _)
    have HBB : Hid (Below w0.heap.size w0 (X0.setCell ⟨q, 0, none⟩ (.int .i64 2147483647))) := hid1 (bl_set BX hqb _)
    rw [eq] at l14
    obtain ⟨mb, hmb⟩ : ∃ x, (cf i).mb = x := ⟨_, rfl⟩
    rw [hmb] at l14
    have i0 : (0 : Int) < (mb : Int) := by omega
    have i1 : 0 < mb := by omega
    have HMM := hid1 hm
    clear hT TF h9 h6 h69 BX lo lo2 hq0 hqc hcs eq hmb hm
    go_wp2_with fail
    refine hQ.out _ 55 true _ _ _ _ _ _ _ _ _ _ _ _ _ _ _ _ _ _ _ _ _ _ _ _ _ _ _ _ _ _ _ _ _ _ _ _ _ _ _ _ _ _ _ _ _ _ _ _ _ _ _ _ _ _ _ _ _ _ _ _ _ _ _ _ _ _ _ _ _ _ _ _ _ _ _ _ _ _ _ _ _ _ _ _ _ _ _ _ _ _ _ _ _ _ _ _ _ _ _ _ _ _ _ _ _ _ _ _ _ _ _ _ _ _ _ _ _ _ _ _ _ _ _ _ _ _ _ _ _ _ _ _ _ _ _ _ _ _ _ _ _ _ _ _ _ _ _ _ _ _ _ _ _ _ _ _ _ ?_
    exact sr_end HR6.out b6 HTF.out (fun _ S q ho hl _ => ⟨sp_9 ho q hl HMM.out, by decide⟩) HBB.out

end Go.Proofs.Ytkodihmjjiadnaa.Nn
