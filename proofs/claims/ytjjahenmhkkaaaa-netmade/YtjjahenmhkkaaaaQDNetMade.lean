import Derived.Test.YtjjahenmhkkaaaaQANetMade
import Derived.Test.YtjjahenmhkkaaaaQCNetMade
import Derived.Deep.MidRow
import Derived.Test.YtjjahenmhkkaaaaNO6
import Derived.Deep.RegionHeld3
import Derived.Deep.RegionLaw
import Derived.Lib.QuietBelow
/- NETWORKS: THE COPY OF A NETWORK, what its walk needs. -/
namespace Go.Proofs.Ytjjahenmhkkaaaa.Nn
open Go.RowKit

/-- A layer with its lists elsewhere. -/
abbrev cpy (L : Ly) (a1 : Option Addr) (c1 : Nat) (a2 : Option Addr) (c2 : Nat) (a3 : Option Addr) (c3 : Nat) : Ly := ⟨L.kd, L.wt, L.k, L.r, L.s, L.sy, L.sx, L.t, L.l, L.b, L.q, L.bd, a1, L.mw, c1, a2, L.mn, c2, a3, L.mb, c3, L.ws, L.ns, L.bs⟩
theorem cl_rl (L : Ly) : ∀ n, cl (n * 8) (nmc L) = nmL L.ns n
  | 0 => rfl
  | n + 1 => by
    rw [nmL, ← cl_rl L n]
    have e : (n + 1) * 8 = n * 8 + 8 := by omega
    have h : ∀ c, c < 8 → nmc L (n * 8 + c) = .int .i64 (L.ns n c) := fun c hc => by
      unfold nmc
      rw [show (n * 8 + c) / 8 = n by omega, show (n * 8 + c) % 8 = c by omega]
    unfold cl
    rw [e]
    simp only [List.range_succ, List.map_append, List.map_cons, List.map_nil, List.append_assoc]
    rw [h 1 (by decide), h 2 (by decide), h 3 (by decide), h 4 (by decide), h 5 (by decide), h 6 (by decide), h 7 (by decide)]
    have h0 := h 0 (by decide)
    rw [Nat.add_zero] at h0
    rw [h0]
    rfl
theorem Co.lo {X : World} {b : Nat} {L : Ly} {a1 a2 a3 : Option Addr} {c1 c2 c3 : Nat} (h : Co X b L a1 c1 a2 c2 a3 c3) : Lo X b (cpy L a1 c1 a2 c2 a3 c3) := by
  obtain ⟨h1, h2, h3⟩ := h
  refine ⟨?_, ?_, ?_⟩
  · have e : i8L ((List.range L.mw).map L.ws) = cl L.mw fun j => .int .i8 (L.ws j) := by simp [i8L, cl, List.map_map, Function.comp_def]
    show X.ownsRow b _ 1 _ _ (i8L ((List.range L.mw).map L.ws))
    rw [e]; exact h1
  · show X.ownsRow b _ 8 _ _ (nmL L.ns L.mn)
    rw [← cl_rl]; exact h2
  · have e : i64L ((List.range L.mb).map L.bs) = cl L.mb fun j => .int .i64 (L.bs j) := by simp [i64L, cl, List.map_map, Function.comp_def]
    show X.ownsRow b _ 1 _ _ (i64L ((List.range L.mb).map L.bs))
    rw [e]; exact h3
/-- A list with others laid into it from a place on. -/
def putL : List Value → Nat → List Value → List Value
  | xs, _, [] => xs
  | xs, o, v :: r => putL (xs.set o v) (o + 1) r
theorem putL_get : ∀ (vs : List Value) (xs : List Value) (o k : Nat), o + vs.length ≤ xs.length → (putL xs o vs)[k]? = if o ≤ k ∧ k < o + vs.length then vs[k - o]? else xs[k]?
  | [], xs, o, k, _ => by rw [putL, if_neg (by simp only [List.length_nil]; omega)]
  | v :: r, xs, o, k, h => by
    simp only [List.length_cons] at h ⊢
    rw [putL, putL_get r (xs.set o v) (o + 1) k (by rw [List.length_set]; omega)]
    by_cases hk : k = o
    · subst hk
      rw [if_neg (by omega), if_pos (by omega), Nat.sub_self, List.getElem?_set_self (by omega)]
      rfl
    · by_cases h1 : o + 1 ≤ k ∧ k < o + 1 + r.length
      · rw [if_pos h1, if_pos (by omega), show k - o = (k - (o + 1)) + 1 by omega, List.getElem?_cons_succ]
      · rw [if_neg h1, if_neg (by omega), List.getElem?_set_ne (by omega)]
theorem own_setCells {base e size g n cap : Nat} : ∀ (vs : List Value) (o : Nat) (W : World) (xs : List Value), W.ownsRow base e size (.slice (some ⟨g, 0, none⟩) n cap) n xs → (W.setCells g o vs).ownsRow base e size (.slice (some ⟨g, 0, none⟩) n cap) n (putL xs o vs) ∧ W.grownBy (W.setCells g o vs) (some g)
  | [], _, W, _, h => ⟨h, gr_refl W _⟩
  | v :: r, o, W, xs, h => by
    obtain ⟨h1, h2⟩ := h.stored o v
    obtain ⟨h3, h4⟩ := own_setCells r (o + 1) _ _ h1
    exact ⟨h3, gr_step h2 h4 (.inl rfl)⟩
theorem lyC_len (L : Ly) : (lyC L).length = 15 := rfl
theorem ls_put {lf : Nat → Ly} {M i : Nat} (hi : i < M) (L : Ly) : putL (lyLs lf M) (i * 15) (lyC L) = lyLs (sn lf i L) M := by
  apply List.ext_getElem?
  intro k
  have hl : (lyLs lf M).length = M * 15 := rl_len (s := 15) (fun _ => rfl) M
  have hl2 : (lyLs (sn lf i L) M).length = M * 15 := rl_len (s := 15) (fun _ => rfl) M
  rw [putL_get _ _ _ _ (by rw [hl, lyC_len]; omega), lyC_len]
  by_cases hk : k < M * 15
  · have e : k = (k / 15) * 15 + k % 15 := by omega
    have h1 : (lyLs (sn lf i L) M)[k]? = (lyC (sn lf i L (k / 15)))[k % 15]? := by
      conv => lhs; rw [e]
      exact rl_get (s := 15) (fun _ => rfl) M (by omega) (by omega)
    have h2 : (lyLs lf M)[k]? = (lyC (lf (k / 15)))[k % 15]? := by
      conv => lhs; rw [e]
      exact rl_get (s := 15) (fun _ => rfl) M (by omega) (by omega)
    rw [h1, h2]
    by_cases hj : k / 15 = i
    · rw [if_pos (by omega), show k - i * 15 = k % 15 by omega]
      unfold sn
      rw [if_pos hj]
    · rw [if_neg (by omega)]
      unfold sn
      rw [if_neg hj]
  · rw [if_neg (by omega), List.getElem?_eq_none (by omega), List.getElem?_eq_none (by omega)]
/-- The copies so far, and what is still the old. -/
def mx (cf lf : Nat → Ly) (i : Nat) : Nat → Ly := fun j => if j < i then cf j else lf j
theorem mx_zero (cf lf : Nat → Ly) : mx cf lf 0 = lf := by funext j; simp [mx]
theorem mx_at (cf lf : Nat → Ly) (i : Nat) : mx cf lf i i = lf i := by simp [mx]
theorem mx_snoc (cf lf : Nat → Ly) (i : Nat) (L : Ly) : sn (mx cf lf i) i L = mx (sn cf i L) lf (i + 1) := by
  funext j
  by_cases h : j = i
  · subst h; simp [sn, mx]
  · by_cases h2 : j < i
    · simp [sn, mx, h, h2, show j < i + 1 by omega]
    · simp [sn, mx, h, h2, show ¬ j < i + 1 by omega]
theorem mx_full (cf lf : Nat → Ly) {M : Nat} : lyLs (mx cf lf M) M = lyLs cf M := rl_congr M fun j hj => by unfold mx; rw [if_pos hj]
/-- A list's own block. -/
abbrev obW (L : Ly) : Option Nat := (Value.slice L.aw L.mw L.cw).ownBlock
abbrev obB (L : Ly) : Option Nat := (Value.slice L.ab L.mb L.cb).ownBlock
/-- No two layers share a list. -/
def Dis (cf : Nat → Ly) (i : Nat) : Prop := ∀ j, j < i → ∀ j', j' < i → j ≠ j' → (∀ q, obW (cf j) = some q → obW (cf j') ≠ some q) ∧ (∀ q, obB (cf j) = some q → obB (cf j') ≠ some q)
theorem Dis.zero (cf : Nat → Ly) : Dis cf 0 := fun j hj => absurd hj (Nat.not_lt_zero j)
theorem Dis.snoc {cf : Nat → Ly} {i : Nat} {L : Ly} (h : Dis cf i) (hn : ∀ j, j < i → (∀ q, obW L = some q → obW (cf j) ≠ some q) ∧ (∀ q, obB L = some q → obB (cf j) ≠ some q)) : Dis (sn cf i L) (i + 1) := by
  intro j hj j' hj' hne
  unfold sn
  by_cases h1 : j = i
  · subst h1
    rw [if_pos rfl, if_neg (by omega)]
    exact hn j' (by omega)
  · rw [if_neg h1]
    by_cases h2 : j' = i
    · subst h2
      rw [if_pos rfl]
      have := hn j (by omega)
      exact ⟨fun q e1 e2 => this.1 q e2 e1, fun q e1 e2 => this.2 q e2 e1⟩
    · rw [if_neg h2]
      exact h j (by omega) j' (by omega) hne
/-- The layers' own list, copied. -/
theorem cloneLs (N : Nt) (w : World) (hN : NtW w N) (hm : N.ml * 168 ≤ 140737488355328) : Calls Try.prog 25 #[.slice N.al N.ml N.cl] w fun e w' => ∃ ua uc, e = .returned (.slice ua N.ml uc) ∧ w'.ownsRow w.heap.size 45 15 (.slice ua N.ml uc) N.ml (lyLs N.lf N.ml) ∧ Below w.heap.size w w' := by
  have hW := hN.1
  cases ha : N.al with
  | none =>
    have h0 : N.ml = 0 := by
      by_cases h : N.ml = 0
      · exact h
      · obtain ⟨g, o, e, _⟩ := hW 0 (by omega)
        rw [ha] at e; cases e
    rw [h0]
    refine (cloneL_nil N.cl w).mono ?_
    rintro e w' ⟨rfl, hb⟩
    exact ⟨none, 0, rfl, World.ownsRow_nil _ _ _ _, hb⟩
  | some ad =>
    rw [ha] at hW
    refine (cloneL_at ad N.ml N.cl (lyLs N.lf N.ml) w (rl_len (s := 15) (fun _ => rfl) _) (fun u hu => ?_) hm (fun k u hu => ?_)).mono ?_
    · obtain ⟨k, hk, rfl⟩ := List.mem_iff_getElem.1 hu
      have hl : (lyLs N.lf N.ml).length = N.ml * 15 := rl_len (s := 15) (fun _ => rfl) N.ml
      have e : (lyLs N.lf N.ml)[k]? = (lyC (N.lf (k / 15)))[k % 15]? := by
        conv => lhs; rw [show k = (k / 15) * 15 + k % 15 by omega]
        exact rl_get (s := 15) (fun _ => rfl) N.ml (by omega) (by omega)
      rw [List.getElem?_eq_getElem hk] at e
      have hm' := List.mem_of_getElem? e.symm
      simp only [lyC, List.mem_cons, List.not_mem_nil, or_false] at hm'
      rcases hm' with h | h | h | h | h | h | h | h | h | h | h | h | h | h | h <;> rw [h] <;> rfl
    · have hl : (lyLs N.lf N.ml).length = N.ml * 15 := rl_len (s := 15) (fun _ => rfl) N.ml
      have hk : k < N.ml * 15 := by have := (List.getElem?_eq_some_iff.1 hu).1; omega
      have e : (lyLs N.lf N.ml)[k]? = (lyC (N.lf (k / 15)))[k % 15]? := by
        conv => lhs; rw [show k = (k / 15) * 15 + k % 15 by omega]
        exact rl_get (s := 15) (fun _ => rfl) N.ml (by omega) (by omega)
      rw [hu] at e
      obtain ⟨g, o, e1, hc, _⟩ := hW (k / 15) (by omega)
      cases e1
      rw [Addr.add_mid, show o + k = o + k / 15 * 15 + k % 15 by omega]
      obtain ⟨c0, c1, c2, c3, c4, c5, c6, c7, c8, c9, c10, c11, c12, c13, c14⟩ := hc
      have hr := Nat.mod_lt k (show 0 < 15 by decide)
      generalize o + k / 15 * 15 = z at *
      generalize k % 15 = r at *
      rcases (show r = 0 ∨ r = 1 ∨ r = 2 ∨ r = 3 ∨ r = 4 ∨ r = 5 ∨ r = 6 ∨ r = 7 ∨ r = 8 ∨ r = 9 ∨ r = 10 ∨ r = 11 ∨ r = 12 ∨ r = 13 ∨ r = 14 by omega) with h | h | h | h | h | h | h | h | h | h | h | h | h | h | h <;> subst h <;> simp only [lyC, List.getElem?_cons_succ, List.getElem?_cons_zero, Nat.add_zero] at e ⊢ <;> rw [e] <;> assumption
    · rintro e w' ⟨G, K, rfl, _, ow, hb⟩
      exact ⟨_, _, rfl, ow, hb⟩
end Go.Proofs.Ytjjahenmhkkaaaa.Nn
/- NETWORKS: THE COPY OF A NETWORK, its walk. -/
namespace Go.Proofs.Ytjjahenmhkkaaaa.Nn
open Go.RowKit

/-- The copy under way. -/
def CS (W : World) (b : Nat) (N : Nt) (G uc : Nat) (cf : Nat → Ly) (i : Nat) : Prop :=
  W.rowIs b 28 5 (netF N.nm N.h N.v N.c (.slice (some ⟨G, 0, none⟩) N.ml uc)) ∧ W.rowIs (b + 1) 28 5 (netF ⟨#[]⟩ 0 0 0 (.slice none 0 0)) ∧ W.ownsRow (b + 2) 45 15 (.slice (some ⟨G, 0, none⟩) N.ml uc) N.ml (lyLs (mx cf N.lf i) N.ml) ∧ (∀ j, j < i → Lo W (b + 2) (cf j) ∧ ∃ a1 c1 a2 c2 a3 c3, cf j = cpy (N.lf j) a1 c1 a2 c2 a3 c3) ∧ Dis cf i ∧ b + 2 ≤ W.heap.size
theorem CS.keep {W X : World} {b : Nat} {N : Nt} {G uc : Nat} {cf : Nat → Ly} {i : Nat} (k : CS W b N G uc cf i) (hb : Below W.heap.size W X) : CS X b N G uc cf i := by
  obtain ⟨a1, a2, a3, a4, a5, a6⟩ := k
  exact ⟨World.rowIs.of_block a1 (hb.block _ a1.lt), World.rowIs.of_block a2 (hb.block _ a2.lt), own_bl a3 hb, fun j hj => ⟨(a4 j hj).1.bl hb, (a4 j hj).2⟩, a5, Nat.le_trans a6 hb.size⟩
/-- A cell of the round's own box is set. -/
theorem CS.set {W : World} {b : Nat} {N : Nt} {G uc : Nat} {cf : Nat → Ly} {i c j : Nat} {u : Value} (k : CS W b N G uc cf i) (hb1 : b + 1 < c) (hG : G ≠ c) (hl : ∀ j, j < i → ∀ q, (obW (cf j) = some q ∨ obB (cf j) = some q ∨ (Value.slice (cf j).an (cf j).mn (cf j).cn).ownBlock = some q) → q ≠ c) : CS (W.setCell ⟨c, j, none⟩ u) b N G uc cf i := by
  obtain ⟨a1, a2, a3, a4, a5, a6⟩ := k
  refine ⟨a1.setOther (by show b ≠ c; omega) _, a2.setOther (by show b + 1 ≠ c; omega) _, own_setNe a3 (fun q hq => by simp [Value.ownBlock] at hq; omega), fun q hq => ⟨?_, (a4 q hq).2⟩, a5, by simpa using a6⟩
  obtain ⟨h1, h2, h3⟩ := (a4 q hq).1
  exact ⟨own_setNe h1 fun x hx => hl q hq x (.inl hx), own_setNe h2 fun x hx => hl q hq x (.inr (.inr hx)), own_setNe h3 fun x hx => hl q hq x (.inr (.inl hx))⟩
theorem CS.blk {W : World} {b : Nat} {N : Nt} {G uc : Nat} {cf : Nat → Ly} {i : Nat} (k : CS W b N G uc cf i) : ∀ j, j < i → ∀ q, (obW (cf j) = some q ∨ obB (cf j) = some q ∨ (Value.slice (cf j).an (cf j).mn (cf j).cn).ownBlock = some q) → q < W.heap.size := by
  intro j hj q h
  obtain ⟨h1, h2, h3⟩ := (k.2.2.2.1 j hj).1
  rcases h with h | h | h
  · exact (h1.lt q h).2
  · exact (h3.lt q h).2
  · exact (h2.lt q h).2
/-- The copied layer is stored. -/
theorem CS.store {W : World} {b z : Nat} {N : Nt} {G uc : Nat} {cf : Nat → Ly} {i : Nat} {L' : Ly} (k : CS W b N G uc cf i) (hi : i < N.ml) (hz : ∀ j, j < i → ∀ q, (obW (cf j) = some q ∨ obB (cf j) = some q ∨ (Value.slice (cf j).an (cf j).mn (cf j).cn).ownBlock = some q) → q < z) (lo : Lo W (b + 2) L') (hw : ∀ q, obW L' = some q → z ≤ q) (hb : ∀ q, obB L' = some q → z ≤ q) (hc : ∃ a1 c1 a2 c2 a3 c3, L' = cpy (N.lf i) a1 c1 a2 c2 a3 c3) : CS (W.setCells G (i * 15) (lyC L')) b N G uc (sn cf i L') (i + 1) ∧ W.grownBy (W.setCells G (i * 15) (lyC L')) (some G) ∧ b + 2 ≤ G := by
  obtain ⟨a1, a2, a3, a4, a5, a6⟩ := k
  obtain ⟨o1, o2⟩ := own_setCells (lyC L') (i * 15) W _ a3
  have hG : b + 2 ≤ G := (a3.lt G rfl).1
  rw [ls_put hi, mx_snoc] at o1
  refine ⟨⟨World.rowIs.of_block a1 (o2.block b (by omega) (by simp; omega)), World.rowIs.of_block a2 (o2.block (b + 1) (by omega) (by simp; omega)), o1, fun j hj => ?_, ?_, Nat.le_trans a6 o2.size⟩, o2, hG⟩
  · unfold sn
    by_cases h : j = i
    · subst h
      rw [if_pos rfl]
      exact ⟨lo.grow a3 (by decide) (by decide) (by decide) o2, hc⟩
    · rw [if_neg h]
      obtain ⟨h1, h2⟩ := a4 j (by omega)
      exact ⟨h1.grow a3 (by decide) (by decide) (by decide) o2, h2⟩
  · refine a5.snoc fun j hj => ⟨fun q e1 e2 => ?_, fun q e1 e2 => ?_⟩
    · have := hz j hj q (.inl e2); have := hw q e1; omega
    · have := hz j hj q (.inr (.inl e2)); have := hb q e1; omega
theorem ls_cell {W : World} {base G uc M i c : Nat} {lf : Nat → Ly} (h : W.ownsRow base 45 15 (.slice (some ⟨G, 0, none⟩) M uc) M (lyLs lf M)) (hi : i < M) (hc : c < 15) : W.cell? ⟨G, i * 15 + c, none⟩ = (lyC (lf i))[c]? := by
  rw [h.cellAt _ (by omega)]
  exact rl_get (s := 15) (fun _ => rfl) M hi hc
theorem ls_there {W : World} {base G uc M i : Nat} {lf : Nat → Ly} (h : W.ownsRow base 45 15 (.slice (some ⟨G, 0, none⟩) M uc) M (lyLs lf M)) (hi : i < M) : W.there G (i * 15) 15 := fun c hc => ⟨by rw [ls_cell h hi hc, List.getElem?_eq_getElem (by rw [lyC_len]; exact hc)]; rfl, h.frozenAt _⟩
theorem info_ly15 : (Try.prog.info? 45).map (·.size) = some 15 := by kernel_rfl
theorem lyC_one (L : Ly) : (lyC L).toArray.all (·.oneCell') = true := by simp [lyC, Value.oneCell']
theorem netF_allN {W : World} {b : Nat} {nm : ByteArray} {H V C : Int} {u : Value} {F : Nat → Value} (h : W.rowIs b 28 5 F) : (((((W.setCell ⟨b, 0, none⟩ (.string nm)).setCell ⟨b, 1, none⟩ (.int .i64 H)).setCell ⟨b, 2, none⟩ (.int .i64 V)).setCell ⟨b, 3, none⟩ (.int .i64 C)).setCell ⟨b, 4, none⟩ u).rowIs b 28 5 (netF nm H V C u) := by
  refine (((((h.set 0 (.string nm)).set 1 (.int .i64 H)).set 2 (.int .i64 V)).set 3 (.int .i64 C)).set 4 u).congr fun q hq => ?_
  rcases (show q = 0 ∨ q = 1 ∨ q = 2 ∨ q = 3 ∨ q = 4 by omega) with rfl | rfl | rfl | rfl | rfl <;> rfl
/-- What a copy is. -/
def Cn (W : World) (base : Nat) (N : Nt) (ua : Option Addr) (uc : Nat) (cf : Nat → Ly) : Prop := W.ownsRow base 45 15 (.slice ua N.ml uc) N.ml (lyLs cf N.ml) ∧ (∀ j, j < N.ml → Lo W base (cf j) ∧ ∃ a1 c1 a2 c2 a3 c3, cf j = cpy (N.lf j) a1 c1 a2 c2 a3 c3) ∧ Dis cf N.ml
set_option maxHeartbeats 6400000 in
set_option maxRecDepth 100000 in
theorem nclone_pos (N : Nt) (w : World) (hN : NtW w N) (hpos : 1 ≤ N.ml) (hm : N.ml * 168 ≤ 140737488355328) (hL : ∀ j, j < N.ml → (N.lf j).mw ≤ 140737488355328 ∧ (N.lf j).mn * 64 ≤ 140737488355328 ∧ (N.lf j).mb * 8 ≤ 140737488355328) :
    Calls Try.prog 12 #[ntv N] w fun e w' => ∃ ua uc cf, e = .returned (ntv ⟨N.nm, N.h, N.v, N.c, ua, N.ml, uc, cf⟩) ∧ Cn w' w.heap.size N ua uc cf ∧ Below w.heap.size w w' := by
  have HL := hid1 hL
  have HN := hid1 hN
  clear hL hN
  obtain ⟨b, hb0⟩ : ∃ b, w.heap.size = b := ⟨_, rfl⟩
  have HB0 := hid1 hb0
  obtain ⟨M, hM⟩ : ∃ M, N.ml = M := ⟨_, rfl⟩
  have HM := hid1 hM
  have CL := hid1 (fun W (hW : Below w.heap.size w W) => cloneLs N W (HN.out.keep hW) hm)
  rw [hM] at CL hpos hm ⊢
  have hMb : M ≤ 1000000000000 := by omega
  clear hm
  go_enter Try.func12, Try.ntmps12
  go_upto_region 1 with fail
  refine gen_world (fun X => Below w.heap.size w X ∧ X.rowIs b 28 5 (netF N.nm N.h N.v N.c (.slice N.al M N.cl)) ∧ X.rowIs (b + 1) 28 5 (netF ⟨#[]⟩ 0 0 0 (.slice none 0 0)) ∧ b + 2 ≤ X.heap.size) ?gw ?_
  case gw =>
    subst hb0
    exact ⟨by repeat (first | (with_reducible exact Below.refl _ _) | (with_reducible refine bl_alloc ?_ _) | (with_reducible refine Below.drew ?_)), (net_newF w N.nm N.h N.v N.c (.slice N.al M N.cl) _).alloc _, by
      have := net_newF (w.alloc (.cells #[.string N.nm, .int .i64 N.h, .int .i64 N.v, .int .i64 N.c, .slice N.al M N.cl] 28)) ⟨#[]⟩ 0 0 0 (.slice none 0 0) 28
      simpa using this, by simp⟩
  rintro X ⟨BX, R0, R1, zX⟩
  have HR0 := hid1 R0
  have HR1 := hid1 R1
  have n4 : X.cell? ⟨b, 4, none⟩ = some (.slice N.al M N.cl) := R0.cell (i := 4) (by decide)
  clear R0 R1
  go_wp2_with fail
  refine (CL.out _ BX).mono ?_
  rintro e z ⟨ua, uc, rfl, own, hb⟩
  obtain ⟨G, rfl, -, -, -, -⟩ := own_cellsS own hpos
  have HC0 : Hid (CS (z.setCell ⟨b, 4, none⟩ (.slice (some ⟨G, 0, none⟩) M uc)) b N G uc N.lf 0) := hid1 (by
    have hM' := HM.out
    subst hM'
    refine ⟨?_, (World.rowIs.of_block HR1.out (hb.block _ HR1.out.lt)).setOther (by show b + 1 ≠ b; omega) _, ?_, fun j hj => absurd hj (Nat.not_lt_zero j), Dis.zero _, ?_⟩
    · refine ((World.rowIs.of_block HR0.out (hb.block _ HR0.out.lt)).set 4 _).congr fun i hi => ?_
      rcases (show i = 0 ∨ i = 1 ∨ i = 2 ∨ i = 3 ∨ i = 4 by omega) with rfl | rfl | rfl | rfl | rfl <;> rfl
    · rw [mx_zero]
      exact own_setD (own.mono zX) (by omega)
    · have := hb.size; simp; omega)
  have BZ : Below w.heap.size w (z.setCell ⟨b, 4, none⟩ (.slice (some ⟨G, 0, none⟩) M uc)) := bl_set (bl_step BX hb) (by omega) _
  have fz := (World.rowIs.of_block HR0.out (hb.block _ HR0.out.lt)).frozen 4
  have m4 : z.cell? ⟨b, 4, none⟩ = some (.slice N.al M N.cl) := (World.rowIs.of_block HR0.out (hb.block _ HR0.out.lt)).cell (i := 4) (by decide)
  go_upto_region 2 with fail
  refine gen_world (fun X => CS X b N G uc N.lf 0 ∧ Below w.heap.size w X) ⟨HC0.out, BZ⟩ ?_
  clear HC0 BZ fz m4 own hb n4 HR0 HR1 BX zX
  rintro Y ⟨CY, BY⟩
  have HCY := hid1 CY
  have n4 : Y.cell? ⟨b, 4, none⟩ = some (.slice (some ⟨G, 0, none⟩) N.ml uc) := CY.1.cell (i := 4) (by decide)
  rw [hM] at n4
  clear CY
  go_wp2_with fail
  go_loopw [12] (fun iv wr => ∃ (i : Nat) (cf : Nat → Ly), i ≤ M ∧ iv = .int .i64 i ∧ Below w.heap.size w wr ∧ Hid (CS wr b N G uc cf i)) (fun iv _ => M - (intOf iv).toNat)
  case atStart => exact ⟨0, N.lf, Nat.zero_le _, rfl, BY, HCY⟩
  case round =>
    clear BY HCY n4 Y
    obtain ⟨i, cf, hi, rfl, BX, HCS⟩ := hrel
    have ii0 : (0 : Int) ≤ (i : Int) := by omega
    by_cases hlt : i < M
    · have ii : (i : Int) < (M : Int) := by omega
      have wI : IntKind.i64.wrap ((i : Int) + 1) = (i : Int) + 1 := by rw [IntKind.wrap_i64]; omega
      have HLC : Hid (∀ c, c < 15 → wr.cell? ⟨G, i * 15 + c, none⟩ = (lyC (N.lf i))[c]?) := hid1 (fun c hc => by
        have := ls_cell HCS.out.2.2.1 (i := i) (by rw [HM.out]; exact hlt) hc
        rwa [mx_at] at this)
      have HLW := hid1 ((HN.out.keep BX).1 i (by rw [HM.out]; exact hlt))
      have HLL : Hid (Lst wr (N.lf i)) := hid1 (by obtain ⟨_, _, _, _, h⟩ := HLW.out; exact h)
      have HLB := hid1 (HL.out i (by rw [HM.out]; exact hlt))
      have HLI : Hid (N.lf i = N.lf i) := hid1 rfl
      clear HLW
      obtain ⟨L, hL⟩ : ∃ L, N.lf i = L := ⟨_, rfl⟩
      rw [hL] at HLC HLL HLB
      have HLE := hid1 hL
      clear hL HLI
      have c0 : wr.cell? ⟨G, i * 15, none⟩ = some (.int .i64 L.kd) := HLC.out 0 (by decide)
      have c1 : wr.cell? ⟨G, i * 15 + 1, none⟩ = some (.int .i64 L.wt) := HLC.out 1 (by decide)
      have c2 : wr.cell? ⟨G, i * 15 + 2, none⟩ = some (.int .i64 L.k) := HLC.out 2 (by decide)
      have c3 : wr.cell? ⟨G, i * 15 + 3, none⟩ = some (.int .i64 L.r) := HLC.out 3 (by decide)
      have c4 : wr.cell? ⟨G, i * 15 + 4, none⟩ = some (.int .i64 L.s) := HLC.out 4 (by decide)
      have c5 : wr.cell? ⟨G, i * 15 + 5, none⟩ = some (.int .i64 L.sy) := HLC.out 5 (by decide)
      have c6 : wr.cell? ⟨G, i * 15 + 6, none⟩ = some (.int .i64 L.sx) := HLC.out 6 (by decide)
      have c7 : wr.cell? ⟨G, i * 15 + 7, none⟩ = some (.int .i64 L.t) := HLC.out 7 (by decide)
      have c8 : wr.cell? ⟨G, i * 15 + 8, none⟩ = some (.int .i64 L.l) := HLC.out 8 (by decide)
      have c9 : wr.cell? ⟨G, i * 15 + 9, none⟩ = some (.int .i64 L.b) := HLC.out 9 (by decide)
      have c10 : wr.cell? ⟨G, i * 15 + 10, none⟩ = some (.int .i64 L.q) := HLC.out 10 (by decide)
      have c11 : wr.cell? ⟨G, i * 15 + 11, none⟩ = some (.int .i64 L.bd) := HLC.out 11 (by decide)
      have c12 : wr.cell? ⟨G, i * 15 + 12, none⟩ = some (.slice L.aw L.mw L.cw) := HLC.out 12 (by decide)
      have c13 : wr.cell? ⟨G, i * 15 + 13, none⟩ = some (.slice L.an L.mn L.cn) := HLC.out 13 (by decide)
      have c14 : wr.cell? ⟨G, i * 15 + 14, none⟩ = some (.slice L.ab L.mb L.cb) := HLC.out 14 (by decide)
      obtain ⟨bl, hbl⟩ : ∃ x, wr.heap.size = x := ⟨_, rfl⟩
      go_upto_region 5 with fail
      refine gen_world (fun X => X.rowIs bl 45 15 (lyf L) ∧ Below wr.heap.size wr X ∧ bl < X.heap.size) ⟨by rw [← hbl]; exact lyf_new wr L _, bl_alloc (Below.refl _ _) _, by simp [hbl]⟩ ?_
      clear c0 c1 c2 c3 c4 c5 c6 c7 c8 c9 c10 c11 c12 c13 c14 HLC
      rintro Z ⟨RL, BZ, zZ⟩
      have HCZ := hid1 (HCS.out.keep BZ)
      have HRL := hid1 RL
      have HHE : Hid (HeC Z bl L) := hid1 ⟨RL.cell (i := 12) (by decide), RL.cell (i := 13) (by decide), RL.cell (i := 14) (by decide), RL.frozen 12, RL.frozen 13, RL.frozen 14⟩
      clear RL
      refine step_clone2 _ _ _ _ _ _ _ _ _ _ _ _ _ _ _ _ _ _ _ _ _ _ _ _ _ _ _ _ _ _ _ _ _ _ _ bl L Z _ (hid1 (HLL.out.keep BZ)) (hid1 HLB.out.1) (hid1 HLB.out.2.1) (hid1 HLB.out.2.2) HHE (hid1 ?_)
      intro X2 v17 v18 v19 v20 v21 v22 v23 v24 v25 v26 v27 v28 a1 d1 a2 d2 a3 d3 B2 CO
      have HGN : G ≠ bl := by have := (HCS.out.2.2.1.lt G rfl).2; omega
      have HY : Hid (∃ L', (((X2.setCell ⟨bl, 12, none⟩ (.slice a1 L.mw d1)).setCell ⟨bl, 13, none⟩ (.slice a2 L.mn d2)).setCell ⟨bl, 14, none⟩ (.slice a3 L.mb d3)).rowIs bl 45 15 (lyf L') ∧ L' = cpy L a1 d1 a2 d2 a3 d3 ∧ Lo (((X2.setCell ⟨bl, 12, none⟩ (.slice a1 L.mw d1)).setCell ⟨bl, 13, none⟩ (.slice a2 L.mn d2)).setCell ⟨bl, 14, none⟩ (.slice a3 L.mb d3)) (bl + 1) L' ∧ CS (((X2.setCell ⟨bl, 12, none⟩ (.slice a1 L.mw d1)).setCell ⟨bl, 13, none⟩ (.slice a2 L.mn d2)).setCell ⟨bl, 14, none⟩ (.slice a3 L.mb d3)) b N G uc cf i ∧ Below w.heap.size w (((X2.setCell ⟨bl, 12, none⟩ (.slice a1 L.mw d1)).setCell ⟨bl, 13, none⟩ (.slice a2 L.mn d2)).setCell ⟨bl, 14, none⟩ (.slice a3 L.mb d3))) := hid1 (by
        have R2 := World.rowIs.of_block HRL.out (B2.block bl zZ)
        have R3 := lyf_set R2 (cpy L a1 d1 L.an L.cn L.ab L.cb) 12 (.slice a1 L.mw d1) ⟨rfl, rfl, rfl, rfl, rfl, rfl, rfl, rfl, rfl, rfl, rfl, rfl, rfl, rfl, rfl⟩
        have R4 := lyf_set R3 (cpy L a1 d1 a2 d2 L.ab L.cb) 13 (.slice a2 L.mn d2) ⟨rfl, rfl, rfl, rfl, rfl, rfl, rfl, rfl, rfl, rfl, rfl, rfl, rfl, rfl, rfl⟩
        have R5 := lyf_set R4 (cpy L a1 d1 a2 d2 a3 d3) 14 (.slice a3 L.mb d3) ⟨rfl, rfl, rfl, rfl, rfl, rfl, rfl, rfl, rfl, rfl, rfl, rfl, rfl, rfl, rfl⟩
        have LC := (CO.lo).mono (show bl + 1 ≤ Z.heap.size by omega)
        have CB := HCS.out.blk
        have CX := HCZ.out.keep B2
        have hne : ∀ j, j < i → ∀ q, (obW (cf j) = some q ∨ obB (cf j) = some q ∨ (Value.slice (cf j).an (cf j).mn (cf j).cn).ownBlock = some q) → q ≠ bl := fun j hj q h => by have := CB j hj q h; omega
        have hb1 : b + 1 < bl := by have := HCS.out.2.2.2.2.2; omega
        refine ⟨_, R5, rfl, ((LC.set (by omega)).set (by omega)).set (by omega), ((CX.set hb1 HGN hne).set hb1 HGN hne).set hb1 HGN hne, ?_⟩
        have hw : w.heap.size ≤ bl := by have := BX.size; omega
        exact bl_set (bl_set (bl_set (bl_step (bl_step BX BZ) B2) hw _) hw _) hw _)
      clear CO B2 HCZ HRL HHE BZ zZ
      go_upto_region 6 with fail
      refine gen_world (fun Y => ∃ L', Y.rowIs bl 45 15 (lyf L') ∧ L' = cpy L a1 d1 a2 d2 a3 d3 ∧ Lo Y (bl + 1) L' ∧ CS Y b N G uc cf i ∧ Below w.heap.size w Y) HY.out ?_
      clear HY
      rintro Y ⟨L', RL, eL, LO, CY, BY⟩
      obtain ⟨l0, l1, l2, l3, l4, l5, l6, l7, l8, l9, l10, l11, l12, l13, l14⟩ := lyf_cells RL
      have HLO := hid1 LO
      have HCY := hid1 CY
      have n4 : Y.cell? ⟨b, 4, none⟩ = some (.slice (some ⟨G, 0, none⟩) N.ml uc) := CY.1.cell (i := 4) (by decide)
      rw [hM] at n4
      have HTH : Hid (Y.there G (i * 15) 15) := hid1 (ls_there CY.2.2.1 (by rw [HM.out]; exact hlt))
      have HEL := hid1 eL
      have HST : Hid (CS (Y.setCells G (i * 15) (lyC L')) b N G uc (sn cf i L') (i + 1) ∧ Below w.heap.size w (Y.setCells G (i * 15) (lyC L'))) := hid1 (by
        have hb2 : b + 2 ≤ bl + 1 := by have := HCS.out.2.2.2.2.2; omega
        obtain ⟨k1, k2, k3⟩ := CY.store (z := bl) (L' := L') (by rw [HM.out]; exact hlt) (fun j hj q h => by have := HCS.out.blk j hj q h; omega) (LO.mono hb2) (fun q h => by have := (LO.1.lt q h).1; omega) (fun q h => by have := (LO.2.2.lt q h).1; omega) ⟨a1, d1, a2, d2, a3, d3, by rw [HLE.out]; exact eL⟩
        exact ⟨k1, gr_bel k2 BY (fun q hq => by cases hq; have := HB0.out; omega)⟩)
      clear LO CY eL RL BX HCS HLL HLB hbl
      go_wp2_with (refine wpList_store_mid rfl 45 _ _ rfl G (i * 15) (lyC L').toArray (by go_simp) (by go_simp; rfl) HTH.out info_ly15 (lyC_one L') ?_; have hst := HST.out; clear HTH l0 l1 l2 l3 l4 l5 l6 l7 l8 l9 l10 l11 l12 l13 l14 n4)
      exact ⟨⟨i + 1, sn cf i L', by omega, by go_num, hst.2, hid1 hst.1⟩, by simp [intOf]; omega⟩
    · have hiM : i = M := by omega
      subst hiM
      clear hlt
      have CC := HCS.out
      have n0 : wr.cell? ⟨b, 0, none⟩ = some (.string N.nm) := CC.1.cell (i := 0) (by decide)
      have n1 : wr.cell? ⟨b, 1, none⟩ = some (.int .i64 N.h) := CC.1.cell (i := 1) (by decide)
      have n2 : wr.cell? ⟨b, 2, none⟩ = some (.int .i64 N.v) := CC.1.cell (i := 2) (by decide)
      have n3 : wr.cell? ⟨b, 3, none⟩ = some (.int .i64 N.c) := CC.1.cell (i := 3) (by decide)
      have n4 : wr.cell? ⟨b, 4, none⟩ = some (.slice (some ⟨G, 0, none⟩) N.ml uc) := CC.1.cell (i := 4) (by decide)
      have r0 : wr.cell? ⟨b + 1, 0, none⟩ = some (.string ⟨#[]⟩) := CC.2.1.cell (i := 0) (by decide)
      have r1 : wr.cell? ⟨b + 1, 1, none⟩ = some (.int .i64 0) := CC.2.1.cell (i := 1) (by decide)
      have r2 : wr.cell? ⟨b + 1, 2, none⟩ = some (.int .i64 0) := CC.2.1.cell (i := 2) (by decide)
      have r3 : wr.cell? ⟨b + 1, 3, none⟩ = some (.int .i64 0) := CC.2.1.cell (i := 3) (by decide)
      have r4 : wr.cell? ⟨b + 1, 4, none⟩ = some (.slice none 0 0) := CC.2.1.cell (i := 4) (by decide)
      have f0 := CC.2.1.frozen 0
      have f1 := CC.2.1.frozen 1
      have f2 := CC.2.1.frozen 2
      have f3 := CC.2.1.frozen 3
      have f4 := CC.2.1.frozen 4
      rw [hM] at n4
      clear CC
      go_wp2_with fail
      refine bodyPost_ret (results_cell_row Try.results12 _ _ (b + 1) 28 _ (0, 0) _ (by go_simp) (row5 (netF_allN HCS.out.2.1)) Try.underlying28 rfl (by kernel_rfl)) rfl ?_
      have hb1 : w.heap.size ≤ b + 1 := by have := HB0.out; omega
      have hb2 : w.heap.size ≤ b + 2 := by omega
      refine ⟨some ⟨G, 0, none⟩, uc, cf, rfl, ⟨?_, fun j hj => ?_, ?_⟩, bl_set (bl_set (bl_set (bl_set (bl_set BX hb1 _) hb1 _) hb1 _) hb1 _) hb1 _⟩
      · have h3 := HCS.out.2.2.1
        rw [HM.out, mx_full] at h3
        rw [HM.out]
        exact (own_setD (own_setD (own_setD (own_setD (own_setD h3 (by omega)) (by omega)) (by omega)) (by omega)) (by omega)).mono hb2
      · rw [HM.out] at hj
        obtain ⟨h1, h2⟩ := HCS.out.2.2.2.1 j hj
        exact ⟨(((((h1.set (by omega)).set (by omega)).set (by omega)).set (by omega)).set (by omega)).mono hb2, h2⟩
      · rw [HM.out]; exact HCS.out.2.2.2.2.1
end Go.Proofs.Ytjjahenmhkkaaaa.Nn
/- BOUND HOLDS: no logit leaves its reach; what the reaches of a network that may be are. -/
namespace Go.Proofs.Ytjjahenmhkkaaaa.Nn
open Go.RowKit

theorem mk_ok {H V C : Int} {M : Nat} {ua : Option Addr} {uc : Nat} {lf : Nat → Ly} (bH : 1 ≤ H ∧ H ≤ 5) (bV : 1 ≤ V ∧ V ≤ 5) (bC : 1 ≤ C ∧ C ≤ 4) (bM : 1 ≤ M ∧ M ≤ 4) (h : Mk H V C M M lf) : chE (mkN H V C M ua uc lf) = 0 ∧ chA (mkN H V C M ua uc lf) = 0 := by
  refine ch_ok ?_ fun j hj => ?_
  · show (if nmB nmX = false then (50 : Int) else if chk H V C ≠ 0 then chk H V C else if 1 ≤ M ∧ M ≤ 64 then 0 else 51) = 0
    rw [nmX_ok, if_neg (by decide), if_neg (by rw [chk_small (by omega) (by omega) (by omega)]; decide), if_pos (by omega)]
  · have hj : j < M := hj
    have := (h.1 j hj).1
    show faE (lf j) (sp (mkN H V C M ua uc lf) j) = 0
    rw [sp_mk H V C M ua none uc 0 lf lf j fun _ _ => rfl]
    exact this
theorem sm_in {f x : Nat → Int} {lo hi : Int} : ∀ {m : Nat}, (∀ j, j < m → -1 ≤ f j ∧ f j ≤ 1) → (∀ j, j < m → lo ≤ x j ∧ x j ≤ hi) → (cnW f 1 m : Nat) * lo - (cnW f (-1) m : Nat) * hi ≤ smV f x m ∧ smV f x m ≤ (cnW f 1 m : Nat) * hi - (cnW f (-1) m : Nat) * lo
  | 0, _, _ => by simp [cnW, smV]
  | m + 1, h, hx => by
    have ih := sm_in (m := m) (fun j hj => h j (by omega)) (fun j hj => hx j (by omega))
    have h3 := h m (by omega)
    have h4 := hx m (by omega)
    simp only [smV, cnW]
    rcases (show f m = -1 ∨ f m = 0 ∨ f m = 1 by omega) with e | e | e
    · simp [e, Int.add_mul]; omega
    · simp [e]; omega
    · simp [e, Int.add_mul]; omega
theorem re_ok {L : Ly} {S : Sp} (h : faE L S = 0) (h3 : ¬ L.kd = 3) : 0 ≤ lef L S ∧ ∀ j, j < L.mb → bok (lef L S) (L.bs j) := by
  unfold faE at h
  by_cases h1 : L.kd = 1
  · rw [if_pos h1] at h
    have e9 : reE L S = 0 := frF_z h 9 (by decide)
    exact zero_else (by decide) e9
  · rw [if_neg h1] at h
    by_cases h2 : L.kd = 2
    · rw [if_pos h2] at h
      have e6 : reE L S = 0 := frF_z h 6 (by decide)
      exact zero_else (by decide) e6
    · rw [if_neg h2, if_neg h3] at h; cases h
/-- What the reaches of a network that may be are. -/
theorem reach_ok (N : Nt) (hz : chE N = 0) {i : Nat} (hi : i < N.ml) (k : Nat) : yLo (N.lf i) (fanN N i) i k ≤ yHi (N.lf i) (fanN N i) i k ∧ -2147483647 ≤ yLo (N.lf i) (fanN N i) i k ∧ yHi (N.lf i) (fanN N i) i k ≤ 2147483647 ∧ ((N.lf i).kd = 3 → yLo (N.lf i) (fanN N i) i k = -1 ∧ yHi (N.lf i) (fanN N i) i k = 1) := by
  obtain ⟨hw0, hf⟩ := fl_all hz
  have h0 := hf i hi
  have hs := sp_all hz i (by omega)
  unfold yLo yHi
  by_cases h3 : (N.lf i).kd = 3
  · rw [if_pos h3, if_pos h3]
    exact ⟨by decide, by decide, by decide, fun _ => ⟨rfl, rfl⟩⟩
  · rw [if_neg h3, if_neg h3]
    obtain ⟨-, e1, K, F, eK, eF, k1, k2, hw, f1, hm, hmb, hbs⟩ := lay_w hs h0 h3
    have e3 : fanN N i = F := by unfold fanN; rw [eF]; rfl
    rw [e3]
    obtain ⟨r1, r2⟩ := re_ok h0 h3
    have hfs := (la_sp N i).2
    have hc := cnW_two (fun j => (N.lf i).ws (k * F + j)) F
    have hb : -lef (N.lf i) (sp N i) ≤ bsO (N.lf i) k ∧ bsO (N.lf i) k ≤ lef (N.lf i) (sp N i) := by
      unfold bsO
      by_cases hk : k < (N.lf i).mb
      · rw [if_pos hk]; have := r2 k hk; unfold bok at this; exact this
      · rw [if_neg hk]; omega
    unfold wLo wHi inL inH
    unfold lef at r1 hb
    rw [eF] at r1 hb
    generalize cnW (fun j => (N.lf i).ws (k * F + j)) 1 F = A at *
    generalize cnW (fun j => (N.lf i).ws (k * F + j)) (-1) F = B at *
    by_cases h00 : i = 0
    · rw [if_pos h00, if_pos h00]
      have hfs' : (sp N i).fs = true := by rw [hfs]; simp [h00]
      rw [hfs', if_pos rfl] at r1 hb
      refine ⟨by omega, by omega, by omega, fun h => absurd h h3⟩
    · rw [if_neg h00, if_neg h00]
      have hfs' : (sp N i).fs = false := by rw [hfs]; simp [h00]
      rw [hfs', if_neg (by decide)] at r1 hb
      refine ⟨by omega, by omega, by omega, fun h => absurd h h3⟩
/-- No logit leaves its reach. -/
theorem logit_in (N : Nt) (x : Nat → Int) (hz : chE N = 0) (hx : ∀ j, j < szN N 0 → -128 ≤ x j ∧ x j ≤ 127) {m : Nat} (hm : N.ml = m + 1) {k : Nat} (hk : k < szN N (m + 1)) : yLo (N.lf m) (fanN N m) m k ≤ valN N x (m + 1) k ∧ valN N x (m + 1) k ≤ yHi (N.lf m) (fanN N m) m k := by
  obtain ⟨l1, l2, l3, l4, l5, l6, l7⟩ := last_ok hz hm
  obtain ⟨hw0, hf⟩ := fl_all hz
  have h0 := hf m (by omega)
  have hs := sp_all hz m (by omega)
  have h3 : ¬ (N.lf m).kd = 3 := by omega
  have hin := val_bd N x hz hx m (by omega)
  rw [l7] at hin
  obtain ⟨-, e1, K, F, eK, eF, k1, k2, hw, f1, hmm, hmb, hbs⟩ := lay_w hs h0 h3
  have e3 : fanN N m = F := by unfold fanN; rw [eF]; rfl
  have hkK : k < K := by rw [l4, eK] at hk; simpa using hk
  have hkm2 : k * F + F ≤ K * F := by have := Nat.mul_le_mul_right F (show k + 1 ≤ K by omega); rw [Nat.succ_mul] at this; exact this
  have hval : valN N x (m + 1) k = smV (fun j => (N.lf m).ws (k * F + j)) (valN N x m) F + (N.lf m).bs k := by
    show opN _ _ _ _ _ _ _ _ = _
    unfold opN
    rw [if_pos l1, e3]
    unfold ouV beV
    rw [if_pos (by omega)]
  rw [e3] at hin ⊢
  have hsm := sm_in (f := fun j => (N.lf m).ws (k * F + j)) (x := valN N x m) (lo := inL m) (hi := inH m) (m := F) (fun j hj => (lay_ws h0 h3).1 _ (by omega)) hin
  unfold yLo yHi wLo wHi bsO
  rw [if_neg h3, if_neg h3, if_pos (by omega), hval]
  omega
end Go.Proofs.Ytjjahenmhkkaaaa.Nn
/- NETMADE: what comes behind a layer without a fault; two networks that are not the same. -/
namespace Go.Proofs.Ytjjahenmhkkaaaa.Nn
open Go.RowKit

theorem af_any {S : Sp} {L : Ly} (h0 : faE L S = 0) :
    (L.kd = 2 ∨ (WOk L.r L.s L.sy L.sx L.t L.l L.b L.q ∧ L.r ≤ S.h + L.t + L.b ∧ L.s ≤ S.v + L.l + L.q)) ∧ oH L S.h S.v S.c = afH L S.h ∧ oV L S.h S.v S.c = afV L S.v ∧ oC L S.h S.v S.c = (if L.kd = 3 then S.c else L.k) := by
  by_cases h2 : L.kd = 2
  · have e1 : oH L S.h S.v S.c = 1 := by unfold oH; rw [if_pos h2]
    have e2 : oV L S.h S.v S.c = 1 := by unfold oV; rw [if_pos h2]
    have e3 : oC L S.h S.v S.c = L.k := by unfold oC; rw [if_pos h2]
    have e4 : afH L S.h = 1 := by unfold afH; rw [if_pos h2]
    have e5 : afV L S.v = 1 := by unfold afV; rw [if_pos h2]
    rw [e1, e2, e3, e4, e5, if_neg (by omega)]
    exact ⟨.inl h2, rfl, rfl, rfl⟩
  · obtain ⟨qo, q1, -⟩ := win_ok h0 h2
    have f1 : oH L S.h S.v S.c = stN S.h L.t L.b L.r L.sy := by unfold oH; rw [if_neg h2, if_pos qo]
    have f2 : oV L S.h S.v S.c = stN S.v L.l L.q L.s L.sx := by unfold oV; rw [if_neg h2, if_pos qo]
    have f3 : oC L S.h S.v S.c = (if L.kd = 3 then S.c else L.k) := by unfold oC; rw [if_neg h2, if_pos qo]
    generalize (if L.kd = 3 then S.c else L.k) = kk at q1 f3 ⊢
    unfold slE at q1
    split at q1
    · contradiction
    · split at q1
      · omega
      · split at q1
        · omega
        · rename_i hW
          have hW : WOk L.r L.s L.sy L.sx L.t L.l L.b L.q := Classical.not_not.1 hW
          have st0 : ∀ n bf af wi st : Int, 1 ≤ st → 0 ≤ stN n bf af wi st := fun n bf af wi st h => by
            unfold stN
            split
            · exact Int.le_refl _
            · have := Int.ediv_nonneg (show 0 ≤ bf + n + af - wi by omega) (show 0 ≤ st by omega); omega
          split at q1
          · omega
          · rename_i hm
            have s1 := st0 S.h L.t L.b L.r L.sy hW.1.2.1.1
            have s2 := st0 S.v L.l L.q L.s L.sx hW.2.2.1.1
            have p1 : ¬ stN S.h L.t L.b L.r L.sy = 0 := fun h => hm (by unfold mn2; rw [h]; split <;> omega)
            have p2 : ¬ stN S.v L.l L.q L.s L.sx = 0 := fun h => hm (by unfold mn2; rw [h]; split <;> omega)
            have r1 : ¬ L.t + S.h + L.b < L.r := fun h => p1 (by unfold stN; rw [if_pos h])
            have r2 : ¬ L.l + S.v + L.q < L.s := fun h => p2 (by unfold stN; rw [if_pos h])
            have e6 : afH L S.h = stN S.h L.t L.b L.r L.sy := by unfold afH stN; rw [if_neg h2, if_neg r1, show S.h + L.t + L.b - L.r = L.t + S.h + L.b - L.r by omega]
            have e7 : afV L S.v = stN S.v L.l L.q L.s L.sx := by unfold afV stN; rw [if_neg h2, if_neg r2, show S.v + L.l + L.q - L.s = L.l + S.v + L.q - L.s by omega]
            rw [f1, f2, f3, e6, e7]
            exact ⟨.inr ⟨hW, by omega, by omega⟩, rfl, rfl, rfl⟩
/-- The shape behind each layer of a network without a fault. -/
theorem sp_af {H V C : Int} {M i : Nat} {ua : Option Addr} {uc : Nat} {lf : Nat → Ly} (h : Mk H V C M M lf) (hi : i < M) :
    ((lf i).kd = 2 ∨ (WOk (lf i).r (lf i).s (lf i).sy (lf i).sx (lf i).t (lf i).l (lf i).b (lf i).q ∧ (lf i).r ≤ (sp (mkN H V C M ua uc lf) i).h + (lf i).t + (lf i).b ∧ (lf i).s ≤ (sp (mkN H V C M ua uc lf) i).v + (lf i).l + (lf i).q)) ∧ (sp (mkN H V C M ua uc lf) (i + 1)).h = afH (lf i) (sp (mkN H V C M ua uc lf) i).h ∧ (sp (mkN H V C M ua uc lf) (i + 1)).v = afV (lf i) (sp (mkN H V C M ua uc lf) i).v ∧ (sp (mkN H V C M ua uc lf) (i + 1)).c = (if (lf i).kd = 3 then (sp (mkN H V C M ua uc lf) i).c else (lf i).k) := by
  have e := sp_mk H V C M ua none uc 0 lf lf i (fun _ _ => rfl)
  have h0 : faE (lf i) (sp (mkN H V C M none 0 lf) i) = 0 := (h.1 i hi).1
  rw [← e] at h0
  exact af_any h0
end Go.Proofs.Ytjjahenmhkkaaaa.Nn
/- NETWORKS THAT ARE MADE: the walk's pieces: a window and a layer begun. -/
namespace Go.Proofs.Ytjjahenmhkkaaaa.Nn
open Go.RowKit

/-- The code from region n on, within its sequence; a block by its number. -/
def isReg (n : Nat) : Code → Bool
  | .region id _ _ => id == n
  | _ => false
def isBlk (n : Nat) : Code → Bool
  | .block id _ => id == n
  | _ => false
def fromP (p : Code → Bool) : Code → Option Code
  | .region id ops b => if p (.region id ops b) then some (.region id ops b) else none
  | .seq a b => if p a then some (.seq a b) else match fromP p a with
    | some c => some c
    | none => fromP p b
  | .block _ c => fromP p c
  | .scope c => fromP p c
  | .loop c => fromP p c
  | .cond _ a b => match fromP p a with
    | some c => some c
    | none => fromP p b
  | _ => none
theorem kgo {P : Program} {c : Code} {Q : Exit → Act → World → Prop} {K : Act → World → Prop} {a : Act} {w : World} (h : ∀ a w, c.wp P Q a w → K a w) (h2 : c.wp P Q a w) : K a w := h _ _ h2
def blockOf (n : Nat) : Code → Option Code
  | .seq a b => match blockOf n a with
    | some c => some c
    | none => blockOf n b
  | .block id c => if id = n then some (.block id c) else blockOf n c
  | .scope c => blockOf n c
  | .loop c => blockOf n c
  | .cond _ a b => match blockOf n a with
    | some c => some c
    | none => blockOf n b
  | _ => none
/-- What pick answers, wherever nothing old has turned. -/
abbrev PkC (w : World) (v : Value) (i n y : Int) : Prop := ∀ W, Below w.heap.size w W → Calls Try.prog 20 #[v, .int .i64 i, .int .i64 n] W fun e w' => e = .returned (.int .i64 y) ∧ w' = W
theorem meet_ofD {J K : Act → World → Prop} {Q : Exit → Act → World → Prop} {a : Act} {w : World} (hK : ∀ a' w', Met J a' w' → K a' w') (h : Met J a w) : Exit.then K Q Exit.normal a w := hK _ _ h
theorem kpD8 {V Y : World} {b : Nat} {h v : Int} (h0 : V.cell? ⟨b, 0, none⟩ = some (.int .i64 h)) (h1 : V.cell? ⟨b, 1, none⟩ = some (.int .i64 v)) (hb : Below V.heap.size V Y) : Y.cell? ⟨b, 0, none⟩ = some (.int .i64 h) ∧ Y.cell? ⟨b, 1, none⟩ = some (.int .i64 v) := ⟨keepc hb h0, keepc hb h1⟩
theorem kpD9 {V Y : World} {b : Nat} {r s y x : Int} (h0 : V.cell? ⟨b, 0, none⟩ = some (.int .i64 r)) (h1 : V.cell? ⟨b, 1, none⟩ = some (.int .i64 s)) (h2 : V.cell? ⟨b, 2, none⟩ = some (.int .i64 y)) (h3 : V.cell? ⟨b, 3, none⟩ = some (.int .i64 x)) (h4 : V.cell? ⟨b, 4, none⟩ = some (.int .i64 0)) (h5 : V.cell? ⟨b, 5, none⟩ = some (.int .i64 0)) (h6 : V.cell? ⟨b, 6, none⟩ = some (.int .i64 0)) (h7 : V.cell? ⟨b, 7, none⟩ = some (.int .i64 0)) (hb : Below V.heap.size V Y) :
    Y.cell? ⟨b, 0, none⟩ = some (.int .i64 r) ∧ Y.cell? ⟨b, 1, none⟩ = some (.int .i64 s) ∧ Y.cell? ⟨b, 2, none⟩ = some (.int .i64 y) ∧ Y.cell? ⟨b, 3, none⟩ = some (.int .i64 x) ∧ Y.cell? ⟨b, 4, none⟩ = some (.int .i64 0) ∧ Y.cell? ⟨b, 5, none⟩ = some (.int .i64 0) ∧ Y.cell? ⟨b, 6, none⟩ = some (.int .i64 0) ∧ Y.cell? ⟨b, 7, none⟩ = some (.int .i64 0) := ⟨keepc hb h0, keepc hb h1, keepc hb h2, keepc hb h3, keepc hb h4, keepc hb h5, keepc hb h6, keepc hb h7⟩
noncomputable def cd8 : Code := (Try.f7.body.bind (regionOf 8)).getD .skip
noncomputable def cd9 : Code := (Try.f7.body.bind (regionOf 9)).getD .skip
attribute [local go_sem ↓] Go.wp_at_zero Go.wp_at_succ
set_option maxHeartbeats 64000000 in
set_option maxRecDepth 100000 in
theorem md_r8 (u1 u2 u3 u5 u6 u8 u9 u10 u11 u12 u13 u14 u15 u16 u17 u18 u19 u20 u21 u22 u23 u24 u25 u26 u27 u28 u29 u30 u31 u32 u33 u34 u35 u36 u37 u38 u39 u40 u41 u42 u43 u44 u45 u46 u47 u48 u49 u50 u51 u52 u53 u54 u55 u56 u57 u58 u59 u60 u61 u62 u63 u64 u65 u66 u67 u68 u69 u70 u71 u72 u73 u74 u75 u76 u77 u78 u79 u80 u81 u82 u83 u84 u85 u86 u87 u88 u89 u90 u91 u92 u93 u94 u95 u96 u97 u98 u99 u100 u101 u102 u103 u104 u105 u106 u107 u108 u109 u110 u111 u112 u113 u114 u115 u116 u117 u118 u119 u120 u121 u122 u123 u124 u125 u126 u127 u128 u129 u130 u131 u132 u133 u134 u135 u136 u137 u138 u139 u140 u141 u142 u143 u144 u145 u146 u147 u148 u149 u150 u151 u152 u153 u154 u155 u156 u157 u158 u159 u160 u161 u162 u163 u164 u165 u166 u167 u168 u169 u170 u171 u172 u173 u174 u175 u176 u177 u178 u179 u180 u181 u182 u183 u184 u185 u186 u187 u188 u189 u190 u191 u192 u193 u194 u195 u196 u197 u198 u199 u200 u201 u202 u203 u204 u205 u206 u207 u208 u209 u210 u211 u212 u213 u214 : Value) (ao : Option Addr) (m cap b : Nat) (p h v y1 y2 y3 y4 : Int) (w wr : World) (Q : Exit → Act → World → Prop)
    (C1 : Hid (PkC w (.slice ao m cap) p h y1)) (C2 : Hid (PkC w (.slice ao m cap) (p + 1) v y2)) (C3 : Hid (PkC w (.slice ao m cap) (p + 2) 3 y3)) (C4 : Hid (PkC w (.slice ao m cap) (p + 3) 3 y4)) (HBX : Hid (Below w.heap.size w wr)) (s0 : wr.cell? ⟨b + 1 + 1, 0, none⟩ = some (.int .i64 h)) (s1 : wr.cell? ⟨b + 1 + 1, 1, none⟩ = some (.int .i64 v)) (wp1 : IntKind.i64.wrap (p + 1) = p + 1) (wp2 : IntKind.i64.wrap (p + 2) = p + 2) (wp3 : IntKind.i64.wrap (p + 3) = p + 3) (a1 : IntKind.i64.wrap (1 + y1) = 1 + y1) (a2 : IntKind.i64.wrap (1 + y2) = 1 + y2) (a3 : IntKind.i64.wrap (1 + y3) = 1 + y3) (a4 : IntKind.i64.wrap (1 + y4) = 1 + y4)
    (hQ : Hid (∀ (X : World) (g8 : Nat) (v37 v38 v39 v40 v41 v42 v43 v44 v45 v46 v47 v48 v49 v50 v51 v52 v53 v54 v55 v56 v57 v58 v59 v60 : Value), wr.heap.size ≤ g8 → X.rowIs g8 40 8 (wnF (1 + y1) (1 + y2) (1 + y3) (1 + y4)) → Below wr.heap.size wr X → Q .normal ⟨#[.slice ao m cap, u1, u2, u3, .pointer (some ⟨b + 1 + 1, 0, none⟩), u5, u6, .int .i64 p, .pointer (some ⟨g8, 0, none⟩), u9, u10, u11, u12, u13, u14, u15, u16, u17, u18, u19, u20, u21, u22, u23, u24, u25, u26, u27, u28, u29, u30, u31, u32, u33, u34, u35, u36, v37, v38, v39, v40, v41, v42, v43, v44, v45, v46, v47, v48, v49, v50, v51, v52, v53, v54, v55, v56, v57, v58, v59, v60, u61, u62, u63, u64, u65, u66, u67, u68, u69, u70, u71, u72, u73, u74, u75, u76, u77, u78, u79, u80, u81, u82, u83, u84, u85, u86, u87, u88, u89, u90, u91, u92, u93, u94, u95, u96, u97, u98, u99, u100, u101, u102, u103, u104, u105, u106, u107, u108, u109, u110, u111, u112, u113, u114, u115, u116, u117, u118, u119, u120, u121, u122, u123, u124, u125, u126, u127, u128, u129, u130, u131, u132, u133, u134, u135, u136, u137, u138, u139, u140, u141, u142, u143, u144, u145, u146, u147, u148, u149, u150, u151, u152, u153, u154, u155, u156, u157, u158, u159, u160, u161, u162, u163, u164, u165, u166, u167, u168, u169, u170, u171, u172, u173, u174, u175, u176, u177, u178, u179, u180, u181, u182, u183, u184, u185, u186, u187, u188, u189, u190, u191, u192, u193, u194, u195, u196, u197, u198, u199, u200, u201, u202, u203, u204, u205, u206, u207, u208, u209, u210, u211, u212, u213, u214], []⟩ X)) :
    Code.wp Try.prog cd8 Q ⟨#[.slice ao m cap, u1, u2, u3, .pointer (some ⟨b + 1 + 1, 0, none⟩), u5, u6, .int .i64 p, u8, u9, u10, u11, u12, u13, u14, u15, u16, u17, u18, u19, u20, u21, u22, u23, u24, u25, u26, u27, u28, u29, u30, u31, u32, u33, u34, u35, u36, u37, u38, u39, u40, u41, u42, u43, u44, u45, u46, u47, u48, u49, u50, u51, u52, u53, u54, u55, u56, u57, u58, u59, u60, u61, u62, u63, u64, u65, u66, u67, u68, u69, u70, u71, u72, u73, u74, u75, u76, u77, u78, u79, u80, u81, u82, u83, u84, u85, u86, u87, u88, u89, u90, u91, u92, u93, u94, u95, u96, u97, u98, u99, u100, u101, u102, u103, u104, u105, u106, u107, u108, u109, u110, u111, u112, u113, u114, u115, u116, u117, u118, u119, u120, u121, u122, u123, u124, u125, u126, u127, u128, u129, u130, u131, u132, u133, u134, u135, u136, u137, u138, u139, u140, u141, u142, u143, u144, u145, u146, u147, u148, u149, u150, u151, u152, u153, u154, u155, u156, u157, u158, u159, u160, u161, u162, u163, u164, u165, u166, u167, u168, u169, u170, u171, u172, u173, u174, u175, u176, u177, u178, u179, u180, u181, u182, u183, u184, u185, u186, u187, u188, u189, u190, u191, u192, u193, u194, u195, u196, u197, u198, u199, u200, u201, u202, u203, u204, u205, u206, u207, u208, u209, u210, u211, u212, u213, u214], []⟩ wr := by
  conv => arg 2; whnf
  refine wp_region_noPanic ?_
  go_region_held3 (fun Y => Y.cell? ⟨b + 1 + 1, 0, none⟩ = some (.int .i64 h) ∧ Y.cell? ⟨b + 1 + 1, 1, none⟩ = some (.int .i64 v))
    (((try dsimp only); (with_reducible refine kpD8 (V := wr) s0 s1 ?_); repeat (first | (with_reducible exact Below.refl _ _) | (with_reducible refine bl_alloc ?_ _) | (with_reducible refine Below.drew ?_) | (with_reducible refine bl_drewN ?_ _) | (with_reducible refine bl_set ?_ (by omega) _) | (with_reducible refine bl_step ?_ (by assumption)))))
    (first
      | (go_at_call 20; with_reducible refine (C1.out _ (bl_step HBX.out (by repeat (first | (with_reducible exact Below.refl _ _) | (with_reducible refine bl_alloc ?_ _) | (with_reducible refine Below.drew ?_) | (with_reducible refine bl_drewN ?_ _) | (with_reducible refine bl_set ?_ (by omega) _) | (with_reducible refine bl_step ?_ (by assumption)))))).mono ?_; rintro e z1 ⟨rfl, rfl⟩)
      | (go_at_call 20; with_reducible refine (C2.out _ (bl_step HBX.out (by repeat (first | (with_reducible exact Below.refl _ _) | (with_reducible refine bl_alloc ?_ _) | (with_reducible refine Below.drew ?_) | (with_reducible refine bl_drewN ?_ _) | (with_reducible refine bl_set ?_ (by omega) _) | (with_reducible refine bl_step ?_ (by assumption)))))).mono ?_; rintro e z2 ⟨rfl, rfl⟩)
      | (go_at_call 20; with_reducible refine (C3.out _ (bl_step HBX.out (by repeat (first | (with_reducible exact Below.refl _ _) | (with_reducible refine bl_alloc ?_ _) | (with_reducible refine Below.drew ?_) | (with_reducible refine bl_drewN ?_ _) | (with_reducible refine bl_set ?_ (by omega) _) | (with_reducible refine bl_step ?_ (by assumption)))))).mono ?_; rintro e z3 ⟨rfl, rfl⟩)
      | (go_at_call 20; with_reducible refine (C4.out _ (bl_step HBX.out (by repeat (first | (with_reducible exact Below.refl _ _) | (with_reducible refine bl_alloc ?_ _) | (with_reducible refine Below.drew ?_) | (with_reducible refine bl_drewN ?_ _) | (with_reducible refine bl_set ?_ (by omega) _) | (with_reducible refine bl_step ?_ (by assumption)))))).mono ?_; rintro e z4 ⟨rfl, rfl⟩))
  all_goals
    refine NoPanic.normal (hQ.out _ wr.heap.size _ _ _ _ _ _ _ _ _ _ _ _ _ _ _ _ _ _ _ _ _ _ _ _ (Nat.le_refl _) (World.rowIs.of_block (wn_newF wr _ _ _ _ _) rfl) ?_)
    repeat (first | (with_reducible exact Below.refl _ _) | (with_reducible refine bl_alloc ?_ _) | (with_reducible refine Below.drew ?_) | (with_reducible refine bl_drewN ?_ _) | (with_reducible refine bl_set ?_ (by omega) _) | (with_reducible refine bl_step ?_ (by assumption)))
attribute [local go_sem ↓] Go.wp_at_zero Go.wp_at_succ
set_option maxHeartbeats 64000000 in
set_option maxRecDepth 100000 in
theorem md_r9 (u1 u2 u3 u4 u5 u6 u9 u10 u11 u12 u13 u14 u15 u16 u17 u18 u19 u20 u21 u22 u23 u24 u25 u26 u27 u28 u29 u30 u31 u32 u33 u34 u35 u36 u37 u38 u39 u40 u41 u42 u43 u44 u45 u46 u47 u48 u49 u50 u51 u52 u53 u54 u55 u56 u57 u58 u59 u60 u61 u62 u63 u64 u65 u66 u67 u68 u69 u70 u71 u72 u73 u74 u75 u76 u77 u78 u79 u80 u81 u82 u83 u84 u85 u86 u87 u88 u89 u90 u91 u92 u93 u94 u95 u96 u97 u98 u99 u100 u101 u102 u103 u104 u105 u106 u107 u108 u109 u110 u111 u112 u113 u114 u115 u116 u117 u118 u119 u120 u121 u122 u123 u124 u125 u126 u127 u128 u129 u130 u131 u132 u133 u134 u135 u136 u137 u138 u139 u140 u141 u142 u143 u144 u145 u146 u147 u148 u149 u150 u151 u152 u153 u154 u155 u156 u157 u158 u159 u160 u161 u162 u163 u164 u165 u166 u167 u168 u169 u170 u171 u172 u173 u174 u175 u176 u177 u178 u179 u180 u181 u182 u183 u184 u185 u186 u187 u188 u189 u190 u191 u192 u193 u194 u195 u196 u197 u198 u199 u200 u201 u202 u203 u204 u205 u206 u207 u208 u209 u210 u211 u212 u213 u214 : Value) (ao : Option Addr) (m cap g8 : Nat) (p r s sy sx y5 : Int) (w wc : World) (Q : Exit → Act → World → Prop)
    (C5 : Hid (PkC w (.slice ao m cap) (p + 4) 3 y5)) (HBX : Hid (Below w.heap.size w wc)) (HW8 : Hid (wc.rowIs g8 40 8 (wnF r s sy sx))) (wp4 : IntKind.i64.wrap (p + 4) = p + 4) (a5 : IntKind.i64.wrap (1 + y5) = 1 + y5)
    (hQ : Hid (∀ (X : World) (g9 : Nat) (v61 v62 v63 v64 v65 v66 v67 : Value), wc.heap.size ≤ g9 → X.rowIs g9 45 15 (lyf (L0 (1 + y5) r s sy sx)) → Below wc.heap.size wc X → Q .normal ⟨#[.slice ao m cap, u1, u2, u3, u4, u5, u6, .int .i64 p, .pointer (some ⟨g8, 0, none⟩), .pointer (some ⟨g9, 0, none⟩), u10, u11, u12, u13, u14, u15, u16, u17, u18, u19, u20, u21, u22, u23, u24, u25, u26, u27, u28, u29, u30, u31, u32, u33, u34, u35, u36, u37, u38, u39, u40, u41, u42, u43, u44, u45, u46, u47, u48, u49, u50, u51, u52, u53, u54, u55, u56, u57, u58, u59, u60, v61, v62, v63, v64, v65, v66, v67, u68, u69, u70, u71, u72, u73, u74, u75, u76, u77, u78, u79, u80, u81, u82, u83, u84, u85, u86, u87, u88, u89, u90, u91, u92, u93, u94, u95, u96, u97, u98, u99, u100, u101, u102, u103, u104, u105, u106, u107, u108, u109, u110, u111, u112, u113, u114, u115, u116, u117, u118, u119, u120, u121, u122, u123, u124, u125, u126, u127, u128, u129, u130, u131, u132, u133, u134, u135, u136, u137, u138, u139, u140, u141, u142, u143, u144, u145, u146, u147, u148, u149, u150, u151, u152, u153, u154, u155, u156, u157, u158, u159, u160, u161, u162, u163, u164, u165, u166, u167, u168, u169, u170, u171, u172, u173, u174, u175, u176, u177, u178, u179, u180, u181, u182, u183, u184, u185, u186, u187, u188, u189, u190, u191, u192, u193, u194, u195, u196, u197, u198, u199, u200, u201, u202, u203, u204, u205, u206, u207, u208, u209, u210, u211, u212, u213, u214], []⟩ X)) :
    Code.wp Try.prog cd9 Q ⟨#[.slice ao m cap, u1, u2, u3, u4, u5, u6, .int .i64 p, .pointer (some ⟨g8, 0, none⟩), u9, u10, u11, u12, u13, u14, u15, u16, u17, u18, u19, u20, u21, u22, u23, u24, u25, u26, u27, u28, u29, u30, u31, u32, u33, u34, u35, u36, u37, u38, u39, u40, u41, u42, u43, u44, u45, u46, u47, u48, u49, u50, u51, u52, u53, u54, u55, u56, u57, u58, u59, u60, u61, u62, u63, u64, u65, u66, u67, u68, u69, u70, u71, u72, u73, u74, u75, u76, u77, u78, u79, u80, u81, u82, u83, u84, u85, u86, u87, u88, u89, u90, u91, u92, u93, u94, u95, u96, u97, u98, u99, u100, u101, u102, u103, u104, u105, u106, u107, u108, u109, u110, u111, u112, u113, u114, u115, u116, u117, u118, u119, u120, u121, u122, u123, u124, u125, u126, u127, u128, u129, u130, u131, u132, u133, u134, u135, u136, u137, u138, u139, u140, u141, u142, u143, u144, u145, u146, u147, u148, u149, u150, u151, u152, u153, u154, u155, u156, u157, u158, u159, u160, u161, u162, u163, u164, u165, u166, u167, u168, u169, u170, u171, u172, u173, u174, u175, u176, u177, u178, u179, u180, u181, u182, u183, u184, u185, u186, u187, u188, u189, u190, u191, u192, u193, u194, u195, u196, u197, u198, u199, u200, u201, u202, u203, u204, u205, u206, u207, u208, u209, u210, u211, u212, u213, u214], []⟩ wc := by
  conv => arg 2; whnf
  refine wp_region_noPanic ?_
  have q0 : wc.cell? ⟨g8, 0, none⟩ = some (.int .i64 r) := HW8.out.cell (i := 0) (by decide)
  have q1 : wc.cell? ⟨g8, 1, none⟩ = some (.int .i64 s) := HW8.out.cell (i := 1) (by decide)
  have q2 : wc.cell? ⟨g8, 2, none⟩ = some (.int .i64 sy) := HW8.out.cell (i := 2) (by decide)
  have q3 : wc.cell? ⟨g8, 3, none⟩ = some (.int .i64 sx) := HW8.out.cell (i := 3) (by decide)
  have q4 : wc.cell? ⟨g8, 4, none⟩ = some (.int .i64 0) := HW8.out.cell (i := 4) (by decide)
  have q5 : wc.cell? ⟨g8, 5, none⟩ = some (.int .i64 0) := HW8.out.cell (i := 5) (by decide)
  have q6 : wc.cell? ⟨g8, 6, none⟩ = some (.int .i64 0) := HW8.out.cell (i := 6) (by decide)
  have q7 : wc.cell? ⟨g8, 7, none⟩ = some (.int .i64 0) := HW8.out.cell (i := 7) (by decide)
  go_region_held3 (fun Y => Y.cell? ⟨g8, 0, none⟩ = some (.int .i64 r) ∧ Y.cell? ⟨g8, 1, none⟩ = some (.int .i64 s) ∧ Y.cell? ⟨g8, 2, none⟩ = some (.int .i64 sy) ∧ Y.cell? ⟨g8, 3, none⟩ = some (.int .i64 sx) ∧ Y.cell? ⟨g8, 4, none⟩ = some (.int .i64 0) ∧ Y.cell? ⟨g8, 5, none⟩ = some (.int .i64 0) ∧ Y.cell? ⟨g8, 6, none⟩ = some (.int .i64 0) ∧ Y.cell? ⟨g8, 7, none⟩ = some (.int .i64 0))
    (((try dsimp only); (with_reducible refine kpD9 (V := wc) q0 q1 q2 q3 q4 q5 q6 q7 ?_); repeat (first | (with_reducible exact Below.refl _ _) | (with_reducible refine bl_alloc ?_ _) | (with_reducible refine Below.drew ?_) | (with_reducible refine bl_drewN ?_ _) | (with_reducible refine bl_set ?_ (by omega) _) | (with_reducible refine bl_step ?_ (by assumption)))))
    (first | (go_at_call 20; with_reducible refine (C5.out _ (bl_step HBX.out (by repeat (first | (with_reducible exact Below.refl _ _) | (with_reducible refine bl_alloc ?_ _) | (with_reducible refine Below.drew ?_) | (with_reducible refine bl_drewN ?_ _) | (with_reducible refine bl_set ?_ (by omega) _) | (with_reducible refine bl_step ?_ (by assumption)))))).mono ?_; rintro e z5 ⟨rfl, rfl⟩))
  all_goals
    refine NoPanic.normal (hQ.out _ wc.heap.size _ _ _ _ _ _ _ (Nat.le_refl _) (lyf_newD wc (L0 (1 + y5) r s sy sx)) ?_)
    repeat (first | (with_reducible exact Below.refl _ _) | (with_reducible refine bl_alloc ?_ _) | (with_reducible refine Below.drew ?_) | (with_reducible refine bl_drewN ?_ _) | (with_reducible refine bl_set ?_ (by omega) _) | (with_reducible refine bl_step ?_ (by assumption)))
end Go.Proofs.Ytjjahenmhkkaaaa.Nn
/- NETMADE: the walk's pieces: the shapes, layer by layer. -/
namespace Go.Proofs.Ytjjahenmhkkaaaa.Nn
open Go.RowKit

theorem shp_neq (a b c : Int) (w : World) : (binOp .neq 25 (shp a b c) (shp a b c)).run Try.prog w = .ok (.bool false) w := by
  have := shp_eqlN ⟨nmX, a, b, c, none, 0, 0, fun _ => L0 0 0 0 0 0⟩ ⟨nmX, a, b, c, none, 0, 0, fun _ => L0 0 0 0 0 0⟩ w
  rw [decide_eq_true (show inE _ _ from ⟨rfl, rfl, rfl⟩)] at this
  simp [go_sem, this]
theorem shf_cells {W : World} {g M i : Nat} {N : Nt} (h : W.rowIs g 25 (M * 3) (shf N M)) (hi : i < M) : W.cell? ⟨g, i * 3, none⟩ = some (.int .i64 (sp N (i + 1)).h) ∧ W.cell? ⟨g, i * 3 + 1, none⟩ = some (.int .i64 (sp N (i + 1)).v) ∧ W.cell? ⟨g, i * 3 + 2, none⟩ = some (.int .i64 (sp N (i + 1)).c) := by
  have k : ∀ c, c < 3 → W.cell? ⟨g, i * 3 + c, none⟩ = some (shc (sp N (i + 1)) c) := fun c hc => by
    rw [h.cell (i := i * 3 + c) (by omega)]
    unfold shf
    rw [if_pos (by omega), show (i * 3 + c) / 3 = i by omega, show (i * 3 + c) % 3 = c by omega]
  exact ⟨k 0 (by decide), k 1 (by decide), k 2 (by decide)⟩
theorem shF_set {W : World} {g : Nat} {a b c : Int} {F : Nat → Value} (h : W.rowIs g 25 3 F) : (((W.setCell ⟨g, 0, none⟩ (.int .i64 a)).setCell ⟨g, 1, none⟩ (.int .i64 b)).setCell ⟨g, 2, none⟩ (.int .i64 c)).rowIs g 25 3 (shF a b c) := by
  refine (((h.set 0 (.int .i64 a)).set 1 (.int .i64 b)).set 2 (.int .i64 c)).congr fun q hq => ?_
  rcases (show q = 0 ∨ q = 1 ∨ q = 2 by omega) with rfl | rfl | rfl <;> rfl
noncomputable def cmB0 : Code := (Try.f4.body.bind (blockOf 0)).getD .skip
attribute [local go_sem ↓] Go.wp_at_zero Go.wp_at_succ
set_option maxHeartbeats 64000000 in
set_option maxRecDepth 100000 in
theorem nm_loop (u0 u1 u2 u3 u4 u6 u7 u9 u12 u13 u14 u15 u16 u17 u18 u19 u20 u21 u22 u23 u24 u25 u26 u27 u28 u29 u30 u31 u32 u33 u34 u35 u36 u37 u38 u39 u40 u41 u42 u43 u44 u45 u46 u47 u48 u49 u50 u51 u52 u53 u54 u55 u56 u57 u58 u59 u60 u61 u62 u63 u64 u65 u66 u67 u68 u69 u70 u71 u72 u73 u74 u75 u76 u77 u78 u79 u80 u81 u82 u83 u84 u85 u86 u87 u88 u89 u90 u91 u92 u93 u94 u95 u96 u97 u98 u99 u100 u101 u102 u103 u104 u105 u106 u107 u108 u109 u110 u111 u112 u113 u114 u115 u116 u117 u118 u119 u120 u121 u122 u123 u124 u125 u126 u127 u128 u129 u130 u131 u132 u133 u134 u135 u136 u137 u138 u139 u140 u141 u142 u143 u144 u145 u146 u147 u148 u149 u150 u151 u152 u153 u154 u155 u156 u157 u158 u159 u160 u161 u162 u163 u164 u165 u166 u167 u168 u169 u170 u171 u172 u173 u174 u175 u176 u177 u178 u179 u180 u181 u182 u183 u184 u185 u186 u187 u188 u189 u190 u191 u192 u193 u194 u195 u196 u197 u198 u199 u200 u201 u202 u203 u204 u205 u206 u207 u208 u209 u210 u211 u212 : Value) (H V C : Int) (M GL uc gS g5 g10 base : Nat) (lf : Nat → Ly) (w1 X0 : World) (Q : Exit → Act → World → Prop)
    (HMk : Hid (Mk H V C M M lf)) (HZ : Hid (chE (mkN H V C M (some ⟨GL, 0, none⟩) uc lf) = 0)) (bM : 1 ≤ M ∧ M ≤ 4) (HN5 : Hid (w1.rowIs g5 28 5 (netF nmX H V C (.slice (some ⟨GL, 0, none⟩) M uc)))) (HLS : Hid (w1.ownsRow base 45 15 (.slice (some ⟨GL, 0, none⟩) M uc) M (lyLs lf M))) (HSH : Hid (w1.rowIs gS 25 (M * 3) (shf (mkN H V C M (some ⟨GL, 0, none⟩) uc lf) M))) (hg10 : w1.heap.size ≤ g10) (BX : Below w1.heap.size w1 X0) (HS : Hid (X0.rowIs g10 25 3 (shF H V C)))
    (hQ : Hid (∀ (X : World) (v4 v11 v12 v50 v51 v52 v53 v54 v55 v56 v57 v58 v59 v60 v61 v62 v63 v64 v65 v66 v67 v68 v69 v70 v71 v72 v73 v74 v75 v76 v77 v78 v79 v80 v81 v82 v83 v84 : Value), Below w1.heap.size w1 X → Q .normal ⟨#[u0, u1, u2, u3, v4, .pointer (some ⟨g5, 0, none⟩), u6, u7, .slice (some ⟨gS, 0, none⟩) M M, u9, .pointer (some ⟨g10, 0, none⟩), v11, v12, u13, u14, u15, u16, u17, u18, u19, u20, u21, u22, u23, u24, u25, u26, u27, u28, u29, u30, u31, u32, u33, u34, u35, u36, u37, u38, u39, u40, u41, u42, u43, u44, u45, u46, u47, u48, u49, v50, v51, v52, v53, v54, v55, v56, v57, v58, v59, v60, v61, v62, v63, v64, v65, v66, v67, v68, v69, v70, v71, v72, v73, v74, v75, v76, v77, v78, v79, v80, v81, v82, v83, v84, u85, u86, u87, u88, u89, u90, u91, u92, u93, u94, u95, u96, u97, u98, u99, u100, u101, u102, u103, u104, u105, u106, u107, u108, u109, u110, u111, u112, u113, u114, u115, u116, u117, u118, u119, u120, u121, u122, u123, u124, u125, u126, u127, u128, u129, u130, u131, u132, u133, u134, u135, u136, u137, u138, u139, u140, u141, u142, u143, u144, u145, u146, u147, u148, u149, u150, u151, u152, u153, u154, u155, u156, u157, u158, u159, u160, u161, u162, u163, u164, u165, u166, u167, u168, u169, u170, u171, u172, u173, u174, u175, u176, u177, u178, u179, u180, u181, u182, u183, u184, u185, u186, u187, u188, u189, u190, u191, u192, u193, u194, u195, u196, u197, u198, u199, u200, u201, u202, u203, u204, u205, u206, u207, u208, u209, u210, u211, u212], []⟩ X)) :
    Code.wp Try.prog cmB0 Q ⟨#[u0, u1, u2, u3, u4, .pointer (some ⟨g5, 0, none⟩), u6, u7, .slice (some ⟨gS, 0, none⟩) M M, u9, .pointer (some ⟨g10, 0, none⟩), .int .i64 0, u12, u13, u14, u15, u16, u17, u18, u19, u20, u21, u22, u23, u24, u25, u26, u27, u28, u29, u30, u31, u32, u33, u34, u35, u36, u37, u38, u39, u40, u41, u42, u43, u44, u45, u46, u47, u48, u49, u50, u51, u52, u53, u54, u55, u56, u57, u58, u59, u60, u61, u62, u63, u64, u65, u66, u67, u68, u69, u70, u71, u72, u73, u74, u75, u76, u77, u78, u79, u80, u81, u82, u83, u84, u85, u86, u87, u88, u89, u90, u91, u92, u93, u94, u95, u96, u97, u98, u99, u100, u101, u102, u103, u104, u105, u106, u107, u108, u109, u110, u111, u112, u113, u114, u115, u116, u117, u118, u119, u120, u121, u122, u123, u124, u125, u126, u127, u128, u129, u130, u131, u132, u133, u134, u135, u136, u137, u138, u139, u140, u141, u142, u143, u144, u145, u146, u147, u148, u149, u150, u151, u152, u153, u154, u155, u156, u157, u158, u159, u160, u161, u162, u163, u164, u165, u166, u167, u168, u169, u170, u171, u172, u173, u174, u175, u176, u177, u178, u179, u180, u181, u182, u183, u184, u185, u186, u187, u188, u189, u190, u191, u192, u193, u194, u195, u196, u197, u198, u199, u200, u201, u202, u203, u204, u205, u206, u207, u208, u209, u210, u211, u212], []⟩ X0 := by
  conv => arg 2; whnf
  go_wp2_with fail
  go_loopw [11] (fun iv wr => ∃ (i : Nat), i ≤ M ∧ iv = .int .i64 i ∧ Below w1.heap.size w1 wr ∧ Hid (wr.rowIs g10 25 3 (shF (sp (mkN H V C M (some ⟨GL, 0, none⟩) uc lf) i).h (sp (mkN H V C M (some ⟨GL, 0, none⟩) uc lf) i).v (sp (mkN H V C M (some ⟨GL, 0, none⟩) uc lf) i).c))) (fun iv _ => M - (intOf iv).toNat)
  case atStart => exact ⟨0, Nat.zero_le _, rfl, BX, HS⟩
  case round =>
    clear BX HS X0
    obtain ⟨i, hi, rfl, BX, HS⟩ := hrel
    have ii0 : (0 : Int) ≤ (i : Int) := by omega
    by_cases hlt : i < M
    · have ii : (i : Int) < (M : Int) := by omega
      have wI : IntKind.i64.wrap ((i : Int) + 1) = (i : Int) + 1 := by rw [IntKind.wrap_i64]; omega
      have HLC : Hid (∀ c, c < 15 → wr.cell? ⟨GL, i * 15 + c, none⟩ = (lyC (lf i))[c]?) := hid1 (fun c hc => ls_cell (own_bl HLS.out BX) hlt hc)
      have HSC := hid1 (shf_cells (World.rowIs.of_block HSH.out (BX.block _ HSH.out.lt)) hlt)
      have HAF := hid1 (sp_af (ua := some ⟨GL, 0, none⟩) (uc := uc) HMk.out hlt)
      have HOK := hid1 (sp_all HZ.out i (Nat.le_of_lt hlt)).1
      have n4 : wr.cell? ⟨g5, 4, none⟩ = some (.slice (some ⟨GL, 0, none⟩) M uc) := (World.rowIs.of_block HN5.out (BX.block _ HN5.out.lt)).cell (i := 4) (by decide)
      obtain ⟨L, hL⟩ : ∃ L, lf i = L := ⟨_, rfl⟩
      rw [hL] at HLC HAF
      clear hL
      obtain ⟨S', hS'⟩ : ∃ S', sp (mkN H V C M (some ⟨GL, 0, none⟩) uc lf) (i + 1) = S' := ⟨_, rfl⟩
      rw [hS'] at HSC HAF
      have HS' := hid1 hS'
      clear hS'
      generalize sp (mkN H V C M (some ⟨GL, 0, none⟩) uc lf) i = S at *
      obtain ⟨h, v, c, ah, fs, la⟩ := S
      obtain ⟨h', v', c', ah', fs', la'⟩ := S'
      dsimp only at HSC HAF HOK HS
      obtain ⟨aw, eh, ev, ec⟩ := HAF.out
      have CA := hid1 (fun W => after_any2 L h v c c' (by have := HOK.out.1; omega) (by have := HOK.out.2.1; omega) aw W)
      rw [← eh, ← ev] at CA
      have EC := hid1 ec
      clear aw eh ev ec HAF HOK
      have s0 : wr.cell? ⟨g10, 0, none⟩ = some (.int .i64 h) := HS.out.cell (i := 0) (by decide)
      have s1 : wr.cell? ⟨g10, 1, none⟩ = some (.int .i64 v) := HS.out.cell (i := 1) (by decide)
      have s2 : wr.cell? ⟨g10, 2, none⟩ = some (.int .i64 c) := HS.out.cell (i := 2) (by decide)
      have c0 : wr.cell? ⟨GL, i * 15, none⟩ = some (.int .i64 L.kd) := HLC.out 0 (by decide)
      have c1 : wr.cell? ⟨GL, i * 15 + 1, none⟩ = some (.int .i64 L.wt) := HLC.out 1 (by decide)
      have c2 : wr.cell? ⟨GL, i * 15 + 2, none⟩ = some (.int .i64 L.k) := HLC.out 2 (by decide)
      have c3 : wr.cell? ⟨GL, i * 15 + 3, none⟩ = some (.int .i64 L.r) := HLC.out 3 (by decide)
      have c4 : wr.cell? ⟨GL, i * 15 + 4, none⟩ = some (.int .i64 L.s) := HLC.out 4 (by decide)
      have c5 : wr.cell? ⟨GL, i * 15 + 5, none⟩ = some (.int .i64 L.sy) := HLC.out 5 (by decide)
      have c6 : wr.cell? ⟨GL, i * 15 + 6, none⟩ = some (.int .i64 L.sx) := HLC.out 6 (by decide)
      have c7 : wr.cell? ⟨GL, i * 15 + 7, none⟩ = some (.int .i64 L.t) := HLC.out 7 (by decide)
      have c8 : wr.cell? ⟨GL, i * 15 + 8, none⟩ = some (.int .i64 L.l) := HLC.out 8 (by decide)
      have c9 : wr.cell? ⟨GL, i * 15 + 9, none⟩ = some (.int .i64 L.b) := HLC.out 9 (by decide)
      have c10 : wr.cell? ⟨GL, i * 15 + 10, none⟩ = some (.int .i64 L.q) := HLC.out 10 (by decide)
      have c11 : wr.cell? ⟨GL, i * 15 + 11, none⟩ = some (.int .i64 L.bd) := HLC.out 11 (by decide)
      have c12 : wr.cell? ⟨GL, i * 15 + 12, none⟩ = some (.slice L.aw L.mw L.cw) := HLC.out 12 (by decide)
      have c13 : wr.cell? ⟨GL, i * 15 + 13, none⟩ = some (.slice L.an L.mn L.cn) := HLC.out 13 (by decide)
      have c14 : wr.cell? ⟨GL, i * 15 + 14, none⟩ = some (.slice L.ab L.mb L.cb) := HLC.out 14 (by decide)
      clear HLC
      obtain ⟨tb, htb⟩ : ∃ tb, (L.kd == 3) = tb := ⟨_, rfl⟩
      have HTB := hid1 htb
      go_upto_if 68 with fail
      go_cut [12] from 69 to 70 (fun s12 wx => s12 = .int .i64 c' ∧ wx = wr)
      case first =>
        cases tb
        · have e : c' = L.k := by rw [EC.out, if_neg (by simpa using HTB.out)]
          have HE := hid1 e
          clear e htb
          go_wp2_with fail
          go_meet
          exact ⟨by rw [HE.out], rfl⟩
        · have e : c' = c := by rw [EC.out, if_pos (by simpa using HTB.out)]
          have HE := hid1 e
          clear e htb
          go_wp2_with fail
          go_meet
          exact ⟨by rw [HE.out], rfl⟩
      case rest =>
        obtain ⟨rfl, rfl⟩ := hcut
        clear HTB htb EC
        have lg := HS.out.lt
        have HBX := hid1 BX
        go_upto_region 15 with fail
        go_cut [] from 71 to 78 (fun wx => Hid (wx.rowIs g10 25 3 (shF h' v' c')) ∧ Below w1.heap.size w1 wx)
        case first =>
          have hfo := followsP
          refine wp_region_noPanic ?_
          go_region_with (first | (go_at_call 11; refine (CA.out _).mono ?_; rintro e y ⟨rfl, hb⟩; have RY := World.rowIs.of_block HS.out ((bl_step (show Below wc.heap.size wc _ from (by repeat (first | (with_reducible exact Below.refl _ _) | (with_reducible refine bl_alloc ?_ _) | (with_reducible refine Below.drew ?_) | (with_reducible refine bl_drewN ?_ _) | (with_reducible refine bl_set ?_ (by omega) _) | (with_reducible refine bl_step ?_ (by assumption))))) hb).block g10 lg); have y0 : y.cell? ⟨g10, 0, none⟩ = some (.int .i64 h) := RY.cell (i := 0) (by decide); have y1 : y.cell? ⟨g10, 1, none⟩ = some (.int .i64 v) := RY.cell (i := 1) (by decide); have y2 : y.cell? ⟨g10, 2, none⟩ = some (.int .i64 c) := RY.cell (i := 2) (by decide); have f0 := RY.frozen 0; have f1 := RY.frozen 1; have f2 := RY.frozen 2; have HRY := hid1 RY; have HBY := hid1 (bl_step HBX.out (bl_step (show Below wc.heap.size wc _ from (by repeat (first | (with_reducible exact Below.refl _ _) | (with_reducible refine bl_alloc ?_ _) | (with_reducible refine Below.drew ?_) | (with_reducible refine bl_drewN ?_ _) | (with_reducible refine bl_set ?_ (by omega) _) | (with_reducible refine bl_step ?_ (by assumption))))) hb)); clear RY hb))
          all_goals
            refine NoPanic.normal ?_
            first | (refine kmeet_p (by assumption) ?_) | (refine meet_ofD (by assumption) ?_)
            go_meet
            exact ⟨hid1 (shF_set HRY.out), bl_set (bl_set (bl_set HBY.out hg10 _) hg10 _) hg10 _⟩
        case rest =>
          obtain ⟨HS2, BX2⟩ := hcut
          clear s0 s1 s2 c0 c1 c2 c3 c4 c5 c6 c7 c8 c9 c10 c11 c12 c13 c14 n4 HS BX HBX lg CA
          have s0 : wc.cell? ⟨g10, 0, none⟩ = some (.int .i64 h') := HS2.out.cell (i := 0) (by decide)
          have s1 : wc.cell? ⟨g10, 1, none⟩ = some (.int .i64 v') := HS2.out.cell (i := 1) (by decide)
          have s2 : wc.cell? ⟨g10, 2, none⟩ = some (.int .i64 c') := HS2.out.cell (i := 2) (by decide)
          obtain ⟨t0, t1, t2⟩ := shf_cells (World.rowIs.of_block HSH.out (BX2.block _ HSH.out.lt)) hlt
          rw [HS'.out] at t0 t1 t2
          dsimp only at t0 t1 t2
          have hne := shp_neq h' v' c'
          go_upto_region 16 with fail
          refine wp_region_noPanic ?_
          go_quiet (fail)
          refine NoPanic.normal ?_
          have B3 : Below w1.heap.size w1 (wc.drewN nq) := bl_drewN BX2 _
          have HS3 : Hid ((wc.drewN nq).rowIs g10 25 3 (shF h' v' c')) := hid1 (World.rowIs.of_block HS2.out rfl)
          clear s0 s1 s2 t0 t1 t2 hne HS2 BX2
          go_wp2_with fail
          exact ⟨⟨i + 1, by omega, by go_num, B3, hid1 (by rw [HS'.out]; exact HS3.out)⟩, by simp [intOf]; omega⟩
    · have hiM : i = M := by omega
      have ii : (M : Int) ≤ (i : Int) := by omega
      go_wp2_with fail
      refine hQ.out _ _ _ _ _ _ _ _ _ _ _ _ _ _ _ _ _ _ _ _ _ _ _ _ _ _ _ _ _ _ _ _ _ _ _ _ _ _ _  ?_
      exact BX
end Go.Proofs.Ytjjahenmhkkaaaa.Nn
/- NETMADE: a copy with one thing changed. -/
namespace Go.Proofs.Ytjjahenmhkkaaaa.Nn
open Go.RowKit

theorem mk_netG {W : World} {base : Nat} {nm : ByteArray} {H V C : Int} {M : Nat} {ua : Option Addr} {uc : Nat} {lf : Nat → Ly} (hnm : nm.size ≤ 1000) (hM : M ≤ 64) (hrow : W.ownsRow base 45 15 (.slice ua M uc) M (lyLs lf M)) (hlo : ∀ j, j < M → Lo W base (lf j) ∧ (lf j).mw ≤ 1000000 ∧ (lf j).mn ≤ 1000000 ∧ (lf j).mb ≤ 1000000) : NtW W ⟨nm, H, V, C, ua, M, uc, lf⟩ := by
  refine ⟨fun j hj => ?_, by show M ≤ _; omega, by show nm.size ≤ _; omega⟩
  have hj : j < M := hj
  obtain ⟨g, e, -, -, -, hc⟩ := own_cellsS hrow (by omega)
  have key : ∀ c, c < 15 → W.cell? ⟨g, 0 + j * 15 + c, none⟩ = (lyC (lf j))[c]? := fun c hc' => by
    rw [Nat.zero_add, hc _ (by omega)]
    exact rl_get (s := 15) (fun _ => rfl) M hj hc'
  obtain ⟨h1, h2, h3, h4⟩ := hlo j hj
  exact ⟨g, 0, e, ⟨key 0 (by decide), key 1 (by decide), key 2 (by decide), key 3 (by decide), key 4 (by decide), key 5 (by decide), key 6 (by decide), key 7 (by decide), key 8 (by decide), key 9 (by decide), key 10 (by decide), key 11 (by decide), key 12 (by decide), key 13 (by decide), key 14 (by decide)⟩, h1.lst h2 h3 h4⟩
/-- The copy's memory. -/
def Cm (W : World) (base g : Nat) (nm : ByteArray) (H V C : Int) (M : Nat) (ua : Option Addr) (uc : Nat) (cf : Nat → Ly) : Prop :=
  W.rowIs g 28 5 (netF nm H V C (.slice ua M uc)) ∧ W.ownsRow base 45 15 (.slice ua M uc) M (lyLs cf M) ∧ (∀ j, j < M → Lo W base (cf j) ∧ (cf j).mw ≤ 1000000 ∧ (cf j).mn ≤ 1000000 ∧ (cf j).mb ≤ 1000000) ∧ base ≤ g
theorem Cm.net {W : World} {base g : Nat} {nm : ByteArray} {H V C : Int} {M : Nat} {ua : Option Addr} {uc : Nat} {cf : Nat → Ly} (h : Cm W base g nm H V C M ua uc cf) (hnm : nm.size ≤ 1000) (hM : M ≤ 64) : NtW W ⟨nm, H, V, C, ua, M, uc, cf⟩ := mk_netG hnm hM h.2.1 h.2.2.1
theorem Cm.keep {W X : World} {base g : Nat} {nm : ByteArray} {H V C : Int} {M : Nat} {ua : Option Addr} {uc : Nat} {cf : Nat → Ly} (h : Cm W base g nm H V C M ua uc cf) (hb : Below W.heap.size W X) : Cm X base g nm H V C M ua uc cf :=
  ⟨World.rowIs.of_block h.1 (hb.block _ h.1.lt), own_bl h.2.1 hb, fun j hj => ⟨(h.2.2.1 j hj).1.bl hb, (h.2.2.1 j hj).2⟩, h.2.2.2⟩
theorem Lo.hi {W : World} {base g j t k : Nat} {L : Ly} {u : Value} {F : Nat → Value} (h : Lo W base L) (hr : W.rowIs g t k F) (h8 : 49 ≠ t) (hn : 71 ≠ t) (h6 : 2 ≠ t) : Lo (W.setCell ⟨g, j, none⟩ u) base L := ⟨own_setHi h.1 hr.lt hr h8, own_setHi h.2.1 hr.lt hr hn, own_setHi h.2.2 hr.lt hr h6⟩
/-- Its name, or the input's channels. -/
theorem Cm.name {W : World} {base g : Nat} {nm : ByteArray} {H V C : Int} {M : Nat} {ua : Option Addr} {uc : Nat} {cf : Nat → Ly} (h : Cm W base g nm H V C M ua uc cf) (nm' : ByteArray) : Cm (W.setCell ⟨g, 0, none⟩ (.string nm')) base g nm' H V C M ua uc cf :=
  ⟨(h.1.set 0 _).congr fun q hq => (by rcases (show q = 0 ∨ q = 1 ∨ q = 2 ∨ q = 3 ∨ q = 4 by omega) with rfl | rfl | rfl | rfl | rfl <;> rfl), own_setHi h.2.1 h.1.lt h.1 (by decide), fun j hj => ⟨(h.2.2.1 j hj).1.hi h.1 (by decide) (by decide) (by decide), (h.2.2.1 j hj).2⟩, h.2.2.2⟩
theorem Cm.chan {W : World} {base g : Nat} {nm : ByteArray} {H V C : Int} {M : Nat} {ua : Option Addr} {uc : Nat} {cf : Nat → Ly} (h : Cm W base g nm H V C M ua uc cf) (C' : Int) : Cm (W.setCell ⟨g, 3, none⟩ (.int .i64 C')) base g nm H V C' M ua uc cf :=
  ⟨(h.1.set 3 _).congr fun q hq => (by rcases (show q = 0 ∨ q = 1 ∨ q = 2 ∨ q = 3 ∨ q = 4 by omega) with rfl | rfl | rfl | rfl | rfl <;> rfl), own_setHi h.2.1 h.1.lt h.1 (by decide), fun j hj => ⟨(h.2.2.1 j hj).1.hi h.1 (by decide) (by decide) (by decide), (h.2.2.1 j hj).2⟩, h.2.2.2⟩
theorem ownNe {W : World} {b1 b2 e1 e2 s1 s2 n1 n2 q : Nat} {v1 v2 : Value} {x1 x2 : List Value} (h1 : W.ownsRow b1 e1 s1 v1 n1 x1) (h2 : W.ownsRow b2 e2 s2 v2 n2 x2) (hne : e1 ≠ e2) (hq : v2.ownBlock = some q) : ∀ p, v1.ownBlock = some p → p ≠ q := fun p hp e => by
  subst e
  rcases own_neD h1 h2 hne with h | h
  · rw [h] at hp; cases hp
  · exact h (hp.trans hq.symm)
theorem rowNe {W : World} {g t k b2 e2 s2 n2 q : Nat} {F : Nat → Value} {v2 : Value} {x2 : List Value} (h : W.rowIs g t k F) (h2 : W.ownsRow b2 e2 s2 v2 n2 x2) (hne : e2 ≠ t) (hq : v2.ownBlock = some q) : g ≠ q := fun e => (own_ne_row h2 h hne q hq) e.symm
/-- A layer with another first weight, bias, or number of outputs. -/
abbrev wtL (L : Ly) (y : Int) : Ly := { L with ws := fun j => if j = 0 then y else L.ws j }
abbrev biL (L : Ly) (y : Int) : Ly := { L with bs := fun j => if j = 0 then y else L.bs j }
abbrev kL (L : Ly) (y : Int) : Ly := { L with k := y }
theorem set0_map {f g : Nat → Int} {n : Nat} {y : Int} (c : Int → Value) (hn : 1 ≤ n) (hg : ∀ j, g j = if j = 0 then y else f j) : (((List.range n).map f).map c).set 0 (c y) = ((List.range n).map g).map c := by
  apply List.ext_getElem?
  intro k
  rw [List.getElem?_set]
  by_cases hk : 0 = k
  · subst hk
    rw [if_pos rfl, if_pos (by simp; omega)]
    simp [hg, show 0 < n by omega]
  · rw [if_neg hk]
    by_cases hkn : k < n
    · simp [hkn, hg, show ¬ k = 0 by omega]
    · simp [hkn]
theorem sn_at {cf : Nat → Ly} {k : Nat} {L : Ly} {P : Ly → Prop} {M : Nat} (h1 : P L) (h2 : ∀ j, j < M → j ≠ k → P (cf j)) : ∀ j, j < M → P (sn cf k L j) := fun j hj => by
  unfold sn
  by_cases h : j = k
  · rw [if_pos h]; exact h1
  · rw [if_neg h]; exact h2 j hj h
theorem lyLs_same {cf : Nat → Ly} {k M : Nat} {L : Ly} (h : lyC L = lyC (cf k)) : lyLs (sn cf k L) M = lyLs cf M := rl_congr M fun j _ => by
  unfold sn
  by_cases e : j = k
  · subst e; rw [if_pos rfl, h]
  · rw [if_neg e]
theorem Cm.weight {W : World} {base g q : Nat} {nm : ByteArray} {H V C : Int} {M : Nat} {ua : Option Addr} {uc : Nat} {cf : Nat → Ly} (h : Cm W base g nm H V C M ua uc cf) (hd : Dis cf M) {k : Nat} (hk : k < M) (hw : 1 ≤ (cf k).mw) (hq : (cf k).aw = some ⟨q, 0, none⟩) (y : Int) : Cm (W.setCell ⟨q, 0, none⟩ (.int .i8 y)) base g nm H V C M ua uc (sn cf k (wtL (cf k) y)) := by
  obtain ⟨h1, h2, h3, h4⟩ := h
  have lk := (h3 k hk).1
  have ob : obW (cf k) = some q := by unfold obW; rw [hq]; rfl
  refine ⟨h1.setOther (rowNe h1 lk.1 (by decide) ob) _, ?_, sn_at (P := fun L => Lo _ base L ∧ L.mw ≤ 1000000 ∧ L.mn ≤ 1000000 ∧ L.mb ≤ 1000000) ⟨⟨?_, ?_, ?_⟩, (h3 k hk).2⟩ fun j hj hne => ⟨⟨?_, ?_, ?_⟩, (h3 j hj).2⟩, h4⟩
  · rw [lyLs_same (L := wtL (cf k) y) rfl]
    exact own_setNe h2 (ownNe h2 lk.1 (by decide) ob)
  · have l1 := lk.1
    rw [hq] at l1
    have := (l1.stored 0 (.int .i8 y)).1
    unfold i8L at this
    rw [set0_map (Value.int .i8) hw (fun _ => rfl)] at this
    show (W.setCell _ _).ownsRow base _ 1 (.slice (cf k).aw _ _) _ _
    rw [hq]
    exact this
  · exact own_setNe lk.2.1 (ownNe lk.2.1 lk.1 (by decide) ob)
  · exact own_setNe lk.2.2 (ownNe lk.2.2 lk.1 (by decide) ob)
  · exact own_setNe (h3 j hj).1.1 fun p hp e => (hd j hj k hk hne).1 p hp (by rw [e]; exact ob)
  · exact own_setNe (h3 j hj).1.2.1 (ownNe (h3 j hj).1.2.1 lk.1 (by decide) ob)
  · exact own_setNe (h3 j hj).1.2.2 (ownNe (h3 j hj).1.2.2 lk.1 (by decide) ob)
theorem Cm.bias {W : World} {base g q : Nat} {nm : ByteArray} {H V C : Int} {M : Nat} {ua : Option Addr} {uc : Nat} {cf : Nat → Ly} (h : Cm W base g nm H V C M ua uc cf) (hd : Dis cf M) {k : Nat} (hk : k < M) (hw : 1 ≤ (cf k).mb) (hq : (cf k).ab = some ⟨q, 0, none⟩) (y : Int) : Cm (W.setCell ⟨q, 0, none⟩ (.int .i64 y)) base g nm H V C M ua uc (sn cf k (biL (cf k) y)) := by
  obtain ⟨h1, h2, h3, h4⟩ := h
  have lk := (h3 k hk).1
  have ob : obB (cf k) = some q := by unfold obB; rw [hq]; rfl
  refine ⟨h1.setOther (rowNe h1 lk.2.2 (by decide) ob) _, ?_, sn_at (P := fun L => Lo _ base L ∧ L.mw ≤ 1000000 ∧ L.mn ≤ 1000000 ∧ L.mb ≤ 1000000) ⟨⟨?_, ?_, ?_⟩, (h3 k hk).2⟩ fun j hj hne => ⟨⟨?_, ?_, ?_⟩, (h3 j hj).2⟩, h4⟩
  · rw [lyLs_same (L := biL (cf k) y) rfl]
    exact own_setNe h2 (ownNe h2 lk.2.2 (by decide) ob)
  · exact own_setNe lk.1 (ownNe lk.1 lk.2.2 (by decide) ob)
  · exact own_setNe lk.2.1 (ownNe lk.2.1 lk.2.2 (by decide) ob)
  · have l1 := lk.2.2
    rw [hq] at l1
    have := (l1.stored 0 (.int .i64 y)).1
    unfold i64L at this
    rw [set0_map (Value.int .i64) hw (fun _ => rfl)] at this
    show (W.setCell _ _).ownsRow base _ 1 (.slice (cf k).ab _ _) _ _
    rw [hq]
    exact this
  · exact own_setNe (h3 j hj).1.1 (ownNe (h3 j hj).1.1 lk.2.2 (by decide) ob)
  · exact own_setNe (h3 j hj).1.2.1 (ownNe (h3 j hj).1.2.1 lk.2.2 (by decide) ob)
  · exact own_setNe (h3 j hj).1.2.2 fun p hp e => (hd j hj k hk hne).2 p hp (by rw [e]; exact ob)
theorem ls_set2 {cf : Nat → Ly} {M : Nat} (hM : 1 ≤ M) (y : Int) : (lyLs cf M).set 2 (.int .i64 y) = lyLs (sn cf 0 (kL (cf 0) y)) M := by
  rw [← ls_put (show 0 < M by omega)]
  apply List.ext_getElem?
  intro k
  have hl : (lyLs cf M).length = M * 15 := rl_len (s := 15) (fun _ => rfl) M
  rw [putL_get _ _ _ _ (by rw [hl, lyC_len]; omega), lyC_len, List.getElem?_set]
  by_cases hk : k < 15
  · have h2 : (lyLs cf M)[k]? = (lyC (cf 0))[k]? := by
      have := rl_get (F := fun j => lyC (cf j)) (s := 15) (fun _ => rfl) M (j := 0) (c := k) (by omega) hk
      rwa [Nat.zero_mul, Nat.zero_add] at this
    have e : (if 0 * 15 ≤ k ∧ k < 0 * 15 + 15 then (lyC (kL (cf 0) y))[k - 0 * 15]? else (lyLs cf M)[k]?) = (lyC (kL (cf 0) y))[k]? := by
      rw [if_pos (by omega), show k - 0 * 15 = k by omega]
    rw [e]
    by_cases h : 2 = k
    · subst h
      rw [if_pos rfl, if_pos (by omega)]
      rfl
    · rw [if_neg h, h2]
      rcases (show k = 0 ∨ k = 1 ∨ k = 3 ∨ k = 4 ∨ k = 5 ∨ k = 6 ∨ k = 7 ∨ k = 8 ∨ k = 9 ∨ k = 10 ∨ k = 11 ∨ k = 12 ∨ k = 13 ∨ k = 14 by omega) with rfl | rfl | rfl | rfl | rfl | rfl | rfl | rfl | rfl | rfl | rfl | rfl | rfl | rfl <;> rfl
  · have e : (if 0 * 15 ≤ k ∧ k < 0 * 15 + 15 then (lyC (kL (cf 0) y))[k - 0 * 15]? else (lyLs cf M)[k]?) = (lyLs cf M)[k]? := if_neg (by omega)
    rw [e, if_neg (by omega)]
theorem Cm.outs {W : World} {base g G : Nat} {nm : ByteArray} {H V C : Int} {M : Nat} {uc : Nat} {cf : Nat → Ly} (h : Cm W base g nm H V C M (some ⟨G, 0, none⟩) uc cf) (hM : 1 ≤ M) (y : Int) : Cm (W.setCell ⟨G, 2, none⟩ (.int .i64 y)) base g nm H V C M (some ⟨G, 0, none⟩) uc (sn cf 0 (kL (cf 0) y)) := by
  obtain ⟨h1, h2, h3, h4⟩ := h
  have ob : (Value.slice (some ⟨G, 0, none⟩) M uc).ownBlock = some G := rfl
  have key : ∀ L, Lo W base L → Lo (W.setCell ⟨G, 2, none⟩ (.int .i64 y)) base L := fun L l => ⟨own_setNe l.1 (ownNe l.1 h2 (by decide) ob), own_setNe l.2.1 (ownNe l.2.1 h2 (by decide) ob), own_setNe l.2.2 (ownNe l.2.2 h2 (by decide) ob)⟩
  refine ⟨h1.setOther (rowNe h1 h2 (by decide) ob) _, ?_, sn_at (P := fun L => Lo _ base L ∧ L.mw ≤ 1000000 ∧ L.mn ≤ 1000000 ∧ L.mb ≤ 1000000) ⟨key _ (h3 0 (by omega)).1, (h3 0 (by omega)).2⟩ fun j hj hne => ⟨key _ (h3 j hj).1, (h3 j hj).2⟩, h4⟩
  rw [← ls_set2 hM]
  exact (h2.stored 2 (.int .i64 y)).1
/-- Copies are the same; changed ones are not. -/
theorem cpy_lyE (L : Ly) (a1 : Option Addr) (c1 : Nat) (a2 : Option Addr) (c2 : Nat) (a3 : Option Addr) (c3 : Nat) : lyE (cpy L a1 c1 a2 c2 a3 c3) L ∧ lyE L (cpy L a1 c1 a2 c2 a3 c3) :=
  ⟨⟨⟨rfl, rfl, rfl, ⟨rfl, rfl, rfl, rfl, rfl, rfl, rfl, rfl⟩, rfl, rfl, rfl, rfl⟩, fun _ _ => rfl, fun _ _ => ⟨⟨rfl, rfl⟩, ⟨rfl, rfl⟩, ⟨rfl, rfl⟩, rfl, rfl⟩, fun _ _ => rfl⟩, ⟨⟨rfl, rfl, rfl, ⟨rfl, rfl, rfl, rfl, rfl, rfl, rfl, rfl⟩, rfl, rfl, rfl, rfl⟩, fun _ _ => rfl, fun _ _ => ⟨⟨rfl, rfl⟩, ⟨rfl, rfl⟩, ⟨rfl, rfl⟩, rfl, rfl⟩, fun _ _ => rfl⟩⟩
theorem ne_w {cf lf : Nat → Ly} {kk M cc ucl : Nat} {y H V C : Int} {ua ul : Option Addr} (hk : kk < M) (he : lyE (cf kk) (lf kk)) (hm : 1 ≤ (cf kk).mw) (hy : ¬ y = (cf kk).ws 0) : ¬ ntE ⟨nmX, H, V, C, ua, M, cc, sn cf kk (wtL (cf kk) y)⟩ (mkN H V C M ul ucl lf) ∧ ¬ ntE (mkN H V C M ul ucl lf) ⟨nmX, H, V, C, ua, M, cc, sn cf kk (wtL (cf kk) y)⟩ := by
  have e0 := he.2.1 0 (by omega)
  have em : (cf kk).mw = (lf kk).mw := he.1.2.2.2.2.2.1
  refine ⟨fun h => ?_, fun h => ?_⟩
  · have this : lyE (sn cf kk (wtL (cf kk) y) kk) (lf kk) := h.2.2.2 kk hk
    rw [sn_eq] at this
    have := this.2.1 0 (by show 0 < (cf kk).mw; omega)
    have : y = (lf kk).ws 0 := this
    exact hy (this.trans e0.symm)
  · have this : lyE (lf kk) (sn cf kk (wtL (cf kk) y) kk) := h.2.2.2 kk hk
    rw [sn_eq] at this
    have := this.2.1 0 (by show 0 < (lf kk).mw; omega)
    have : (lf kk).ws 0 = y := this
    exact hy (this.symm.trans e0.symm)
theorem ne_b {cf lf : Nat → Ly} {kk M cc ucl : Nat} {y H V C : Int} {ua ul : Option Addr} (hk : kk < M) (he : lyE (cf kk) (lf kk)) (hm : 1 ≤ (cf kk).mb) (hy : ¬ y = (cf kk).bs 0) : ¬ ntE ⟨nmX, H, V, C, ua, M, cc, sn cf kk (biL (cf kk) y)⟩ (mkN H V C M ul ucl lf) ∧ ¬ ntE (mkN H V C M ul ucl lf) ⟨nmX, H, V, C, ua, M, cc, sn cf kk (biL (cf kk) y)⟩ := by
  have e0 := he.2.2.2 0 (by omega)
  have em : (cf kk).mb = (lf kk).mb := he.1.2.2.2.2.2.2.2
  refine ⟨fun h => ?_, fun h => ?_⟩
  · have this : lyE (sn cf kk (biL (cf kk) y) kk) (lf kk) := h.2.2.2 kk hk
    rw [sn_eq] at this
    have := this.2.2.2 0 (by show 0 < (cf kk).mb; omega)
    have : y = (lf kk).bs 0 := this
    exact hy (this.trans e0.symm)
  · have this : lyE (lf kk) (sn cf kk (biL (cf kk) y) kk) := h.2.2.2 kk hk
    rw [sn_eq] at this
    have := this.2.2.2 0 (by show 0 < (lf kk).mb; omega)
    have : (lf kk).bs 0 = y := this
    exact hy (this.symm.trans e0.symm)
theorem ne_k {cf lf : Nat → Ly} {M cc ucl : Nat} {y H V C : Int} {ua ul : Option Addr} (hk : 0 < M) (he : lyE (cf 0) (lf 0)) (hy : ¬ y = (cf 0).k) : ¬ ntE ⟨nmX, H, V, C, ua, M, cc, sn cf 0 (kL (cf 0) y)⟩ (mkN H V C M ul ucl lf) ∧ ¬ ntE (mkN H V C M ul ucl lf) ⟨nmX, H, V, C, ua, M, cc, sn cf 0 (kL (cf 0) y)⟩ := by
  have e0 : (cf 0).k = (lf 0).k := he.1.2.2.1
  refine ⟨fun h => ?_, fun h => ?_⟩
  · have this : lyE (sn cf 0 (kL (cf 0) y) 0) (lf 0) := h.2.2.2 0 hk
    rw [sn_eq] at this
    have : y = (lf 0).k := this.1.2.2.1
    exact hy (this.trans e0.symm)
  · have this : lyE (lf 0) (sn cf 0 (kL (cf 0) y) 0) := h.2.2.2 0 hk
    rw [sn_eq] at this
    have : (lf 0).k = y := this.1.2.2.1
    exact hy (this.symm.trans e0.symm)
abbrev zL : Ly := ⟨0, 0, 0, 0, 0, 0, 0, 0, 0, 0, 0, 0, none, 0, 0, none, 0, 0, none, 0, 0, fun _ => 0, fun _ _ => 0, fun _ => 0⟩
/-- A layer more. -/
theorem Cm.more {W Y : World} {base g c3 : Nat} {a3 : Option Addr} {nm : ByteArray} {H V C : Int} {M : Nat} {ua : Option Addr} {uc : Nat} {cf : Nat → Ly} (h : Cm W base g nm H V C M ua uc cf) (own : Y.ownsRow base 45 15 (.slice a3 (M + 1) c3) (M + 1) (lyLs cf M ++ lyC zL)) (gr : (W.alloc (lyo zL)).grownBy Y (Value.slice ua M uc).ownBlock) : Cm (Y.setCell ⟨g, 4, none⟩ (.slice a3 (M + 1) c3)) base g nm H V C (M + 1) a3 c3 (sn cf M zL) := by
  obtain ⟨h1, h2, h3, h4⟩ := h
  have B1 : Below W.heap.size W (W.alloc (lyo zL)) := bl_alloc (Below.refl _ _) _
  have R1 := World.rowIs.of_block h1 (B1.block _ h1.lt)
  have O1 := own_bl h2 B1
  have R2 : Y.rowIs g 28 5 (netF nm H V C (.slice ua M uc)) := World.rowIs.of_block R1 (gr.block g R1.lt (fun e => own_ne_row O1 R1 (by decide) g e.symm rfl))
  refine ⟨(R2.set 4 _).congr fun q hq => (by rcases (show q = 0 ∨ q = 1 ∨ q = 2 ∨ q = 3 ∨ q = 4 by omega) with rfl | rfl | rfl | rfl | rfl <;> rfl), ?_, fun j hj => ?_, h4⟩
  · have e : lyLs (sn cf M zL) (M + 1) = lyLs cf M ++ lyC zL := by
      show rl _ M ++ lyC (sn cf M zL M) = _
      rw [sn_eq]
      congr 1
      exact rl_congr M fun j hj => by rw [sn_ne hj]
    rw [e]
    exact own_setHi own R2.lt R2 (by decide)
  · by_cases hjM : j = M
    · subst hjM
      rw [show sn cf j zL j = zL from sn_eq]
      exact ⟨lo_nil _ _ _ _ _ _ _ _ _ _ _ _ _ _, by decide, by decide, by decide⟩
    · rw [show sn cf M zL j = cf j from sn_ne (by omega)]
      exact ⟨(((h3 j (by omega)).1.bl B1).grow O1 (by decide) (by decide) (by decide) gr).hi R2 (by decide) (by decide) (by decide), (h3 j (by omega)).2⟩
end Go.Proofs.Ytjjahenmhkkaaaa.Nn
/- NETMADE: the walk's pieces: one thing of the copy is changed. -/
namespace Go.Proofs.Ytjjahenmhkkaaaa.Nn
open Go.RowKit

def Sw (X w1 : World) (g13 : Nat) (H V C : Int) (M GC cc kk : Nat) (cf lf : Nat → Ly) : Prop := Cm X w1.heap.size g13 nmX H V C M (some ⟨GC, 0, none⟩) cc cf ∧ Dis cf M ∧ (∀ j, j < M → lyE (cf j) (lf j)) ∧ Below w1.heap.size w1 X ∧ M = kk + 1 ∧ M ≤ 4 ∧ (1 ≤ C ∧ C ≤ 4) ∧ 1 ≤ (cf kk).mw ∧ 1 ≤ (cf kk).mb ∧ (-1 ≤ (cf kk).ws 0 ∧ (cf kk).ws 0 ≤ 1) ∧ (-2147483647 ≤ (cf kk).bs 0 ∧ (cf kk).bs 0 ≤ 2147483647) ∧ (0 ≤ (cf 0).k ∧ (cf 0).k ≤ 4096)
def Sx (X w1 : World) (g13 : Nat) (H V : Int) (N : Nt) : Prop := ∃ (nm2 : ByteArray) (C2 : Int) (M2 : Nat) (ua2 : Option Addr) (uc2 : Nat) (cf2 : Nat → Ly), Cm X w1.heap.size g13 nm2 H V C2 M2 ua2 uc2 cf2 ∧ nm2.size ≤ 1000 ∧ M2 ≤ 64 ∧ ¬ ntE ⟨nm2, H, V, C2, ua2, M2, uc2, cf2⟩ N ∧ ¬ ntE N ⟨nm2, H, V, C2, ua2, M2, uc2, cf2⟩ ∧ Below w1.heap.size w1 X
def nmY : ByteArray := ⟨#[78, 101, 116, 95, 55, 45, 120, 121]⟩
noncomputable def cmB2 : Code := (Try.f4.body.bind (blockOf 2)).getD .skip
attribute [local go_sem ↓] Go.wp_at_zero Go.wp_at_succ
set_option maxHeartbeats 64000000 in
set_option maxRecDepth 100000 in
theorem nm_s0 (u0 u1 u2 u3 u4 u5 u6 u7 u8 u9 u10 u11 u12 u15 u16 u17 u18 u19 u20 u21 u22 u23 u24 u25 u26 u27 u28 u29 u30 u31 u32 u33 u34 u35 u36 u37 u38 u39 u40 u41 u42 u43 u44 u45 u46 u47 u48 u49 u50 u51 u52 u53 u54 u55 u56 u57 u58 u59 u60 u61 u62 u63 u64 u65 u66 u67 u68 u69 u70 u71 u72 u73 u74 u75 u76 u77 u78 u79 u80 u81 u82 u83 u84 u85 u86 u87 u88 u89 u90 u91 u92 u93 u94 u95 u96 u97 u98 u99 u100 u101 u102 u103 u104 u105 u106 u107 u108 u109 u110 u111 u112 u113 u114 u115 u116 u117 u118 u119 u120 u121 u122 u123 u124 u125 u126 u127 u128 u130 u131 u132 u133 u134 u135 u136 u137 u138 u139 u140 u141 u142 u143 u144 u145 u146 u147 u148 u149 u150 u151 u152 u153 u154 u155 u156 u157 u158 u159 u160 u161 u162 u163 u164 u165 u166 u167 u168 u169 u170 u171 u172 u173 u174 u175 u176 u177 u178 u179 u180 u181 u182 u183 u184 u185 u186 u187 u188 u189 u190 u191 u192 u193 u194 u195 u196 u197 u198 u199 u200 u201 u202 u203 u204 u205 u206 u207 u208 u209 u210 u211 u212 : Value) (H V C : Int) (M GC cc g13 kk : Nat) (cf lf : Nat → Ly) (ul : Option Addr) (ucl : Nat) (w1 X0 : World) (Q : Exit → Act → World → Prop)
    (HSW : Hid (Sw X0 w1 g13 H V C M GC cc kk cf lf)) 
    (hQ : Hid (∀ (X : World) (v130 v131 v132 v133 v134 v135 v136 v137 v138 v139 v140 v141 v142 v143 v144 v145 v146 v147 v148 v149 v150 v151 v152 v153 v154 v155 v156 v157 v158 v159 v160 v161 v162 v163 v164 v165 v166 v167 v168 v169 v170 v171 v172 v173 v174 v175 v176 v177 v178 v179 v180 v181 v182 v183 v184 v185 v186 v187 v188 v189 : Value), Sx X w1 g13 H V (mkN H V C M ul ucl lf) → Q .normal ⟨#[u0, u1, u2, u3, u4, u5, u6, u7, u8, u9, u10, u11, u12, .pointer (some ⟨g13, 0, none⟩), .int .i64 (kk : Int), u15, u16, u17, u18, u19, u20, u21, u22, u23, u24, u25, u26, u27, u28, u29, u30, u31, u32, u33, u34, u35, u36, u37, u38, u39, u40, u41, u42, u43, u44, u45, u46, u47, u48, u49, u50, u51, u52, u53, u54, u55, u56, u57, u58, u59, u60, u61, u62, u63, u64, u65, u66, u67, u68, u69, u70, u71, u72, u73, u74, u75, u76, u77, u78, u79, u80, u81, u82, u83, u84, u85, u86, u87, u88, u89, u90, u91, u92, u93, u94, u95, u96, u97, u98, u99, u100, u101, u102, u103, u104, u105, u106, u107, u108, u109, u110, u111, u112, u113, u114, u115, u116, u117, u118, u119, u120, u121, u122, u123, u124, u125, u126, u127, u128, .int .i64 0, v130, v131, v132, v133, v134, v135, v136, v137, v138, v139, v140, v141, v142, v143, v144, v145, v146, v147, v148, v149, v150, v151, v152, v153, v154, v155, v156, v157, v158, v159, v160, v161, v162, v163, v164, v165, v166, v167, v168, v169, v170, v171, v172, v173, v174, v175, v176, v177, v178, v179, v180, v181, v182, v183, v184, v185, v186, v187, v188, v189, u190, u191, u192, u193, u194, u195, u196, u197, u198, u199, u200, u201, u202, u203, u204, u205, u206, u207, u208, u209, u210, u211, u212], []⟩ X)) :
    Code.wp Try.prog cmB2 Q ⟨#[u0, u1, u2, u3, u4, u5, u6, u7, u8, u9, u10, u11, u12, .pointer (some ⟨g13, 0, none⟩), .int .i64 (kk : Int), u15, u16, u17, u18, u19, u20, u21, u22, u23, u24, u25, u26, u27, u28, u29, u30, u31, u32, u33, u34, u35, u36, u37, u38, u39, u40, u41, u42, u43, u44, u45, u46, u47, u48, u49, u50, u51, u52, u53, u54, u55, u56, u57, u58, u59, u60, u61, u62, u63, u64, u65, u66, u67, u68, u69, u70, u71, u72, u73, u74, u75, u76, u77, u78, u79, u80, u81, u82, u83, u84, u85, u86, u87, u88, u89, u90, u91, u92, u93, u94, u95, u96, u97, u98, u99, u100, u101, u102, u103, u104, u105, u106, u107, u108, u109, u110, u111, u112, u113, u114, u115, u116, u117, u118, u119, u120, u121, u122, u123, u124, u125, u126, u127, u128, .int .i64 0, u130, u131, u132, u133, u134, u135, u136, u137, u138, u139, u140, u141, u142, u143, u144, u145, u146, u147, u148, u149, u150, u151, u152, u153, u154, u155, u156, u157, u158, u159, u160, u161, u162, u163, u164, u165, u166, u167, u168, u169, u170, u171, u172, u173, u174, u175, u176, u177, u178, u179, u180, u181, u182, u183, u184, u185, u186, u187, u188, u189, u190, u191, u192, u193, u194, u195, u196, u197, u198, u199, u200, u201, u202, u203, u204, u205, u206, u207, u208, u209, u210, u211, u212], []⟩ X0 := by
  conv => arg 2; whnf
  obtain ⟨hcm, hd, he, BX, hM, bM, bC, hmw, hmb, hw0, hb0, hk0⟩ := HSW.out
  have n0 : X0.cell? ⟨g13, 0, none⟩ = some (.string nmX) := hcm.1.cell (i := 0) (by decide)
  have f0 := hcm.1.frozen 0
  have HCM := hid1 hcm
  have HM4 : Hid (M ≤ 64) := hid1 (by omega)
  clear hcm hd he hM bM bC hmw hmb hw0 hb0 hk0
  go_wp2_with fail
  refine hQ.out _ _ _ _ _ _ _ _ _ _ _ _ _ _ _ _ _ _ _ _ _ _ _ _ _ _ _ _ _ _ _ _ _ _ _ _ _ _ _ _ _ _ _ _ _ _ _ _ _ _ _ _ _ _ _ _ _ _ _ _ _ ?_
  refine ⟨nmX ++ ⟨#[121]⟩, C, M, some ⟨GC, 0, none⟩, cc, cf, HCM.out.name _, by decide +kernel, HM4.out, fun h => ?_, fun h => ?_, bl_set BX HCM.out.2.2.2 _⟩
  · exact absurd h.1 (show ¬ (nmX ++ ⟨#[121]⟩ : ByteArray).toList = nmX.toList by decide +kernel)
  · exact absurd h.1 (show ¬ nmX.toList = (nmX ++ ⟨#[121]⟩ : ByteArray).toList by decide +kernel)
attribute [local go_sem ↓] Go.wp_at_zero Go.wp_at_succ
set_option maxHeartbeats 64000000 in
set_option maxRecDepth 100000 in
theorem nm_s1 (u0 u1 u2 u3 u4 u5 u6 u7 u8 u9 u10 u11 u12 u15 u16 u17 u18 u19 u20 u21 u22 u23 u24 u25 u26 u27 u28 u29 u30 u31 u32 u33 u34 u35 u36 u37 u38 u39 u40 u41 u42 u43 u44 u45 u46 u47 u48 u49 u50 u51 u52 u53 u54 u55 u56 u57 u58 u59 u60 u61 u62 u63 u64 u65 u66 u67 u68 u69 u70 u71 u72 u73 u74 u75 u76 u77 u78 u79 u80 u81 u82 u83 u84 u85 u86 u87 u88 u89 u90 u91 u92 u93 u94 u95 u96 u97 u98 u99 u100 u101 u102 u103 u104 u105 u106 u107 u108 u109 u110 u111 u112 u113 u114 u115 u116 u117 u118 u119 u120 u121 u122 u123 u124 u125 u126 u127 u128 u130 u131 u132 u133 u134 u135 u136 u137 u138 u139 u140 u141 u142 u143 u144 u145 u146 u147 u148 u149 u150 u151 u152 u153 u154 u155 u156 u157 u158 u159 u160 u161 u162 u163 u164 u165 u166 u167 u168 u169 u170 u171 u172 u173 u174 u175 u176 u177 u178 u179 u180 u181 u182 u183 u184 u185 u186 u187 u188 u189 u190 u191 u192 u193 u194 u195 u196 u197 u198 u199 u200 u201 u202 u203 u204 u205 u206 u207 u208 u209 u210 u211 u212 : Value) (H V C : Int) (M GC cc g13 kk : Nat) (cf lf : Nat → Ly) (ul : Option Addr) (ucl : Nat) (w1 X0 : World) (Q : Exit → Act → World → Prop)
    (HSW : Hid (Sw X0 w1 g13 H V C M GC cc kk cf lf)) 
    (hQ : Hid (∀ (X : World) (v130 v131 v132 v133 v134 v135 v136 v137 v138 v139 v140 v141 v142 v143 v144 v145 v146 v147 v148 v149 v150 v151 v152 v153 v154 v155 v156 v157 v158 v159 v160 v161 v162 v163 v164 v165 v166 v167 v168 v169 v170 v171 v172 v173 v174 v175 v176 v177 v178 v179 v180 v181 v182 v183 v184 v185 v186 v187 v188 v189 : Value), Sx X w1 g13 H V (mkN H V C M ul ucl lf) → Q .normal ⟨#[u0, u1, u2, u3, u4, u5, u6, u7, u8, u9, u10, u11, u12, .pointer (some ⟨g13, 0, none⟩), .int .i64 (kk : Int), u15, u16, u17, u18, u19, u20, u21, u22, u23, u24, u25, u26, u27, u28, u29, u30, u31, u32, u33, u34, u35, u36, u37, u38, u39, u40, u41, u42, u43, u44, u45, u46, u47, u48, u49, u50, u51, u52, u53, u54, u55, u56, u57, u58, u59, u60, u61, u62, u63, u64, u65, u66, u67, u68, u69, u70, u71, u72, u73, u74, u75, u76, u77, u78, u79, u80, u81, u82, u83, u84, u85, u86, u87, u88, u89, u90, u91, u92, u93, u94, u95, u96, u97, u98, u99, u100, u101, u102, u103, u104, u105, u106, u107, u108, u109, u110, u111, u112, u113, u114, u115, u116, u117, u118, u119, u120, u121, u122, u123, u124, u125, u126, u127, u128, .int .i64 1, v130, v131, v132, v133, v134, v135, v136, v137, v138, v139, v140, v141, v142, v143, v144, v145, v146, v147, v148, v149, v150, v151, v152, v153, v154, v155, v156, v157, v158, v159, v160, v161, v162, v163, v164, v165, v166, v167, v168, v169, v170, v171, v172, v173, v174, v175, v176, v177, v178, v179, v180, v181, v182, v183, v184, v185, v186, v187, v188, v189, u190, u191, u192, u193, u194, u195, u196, u197, u198, u199, u200, u201, u202, u203, u204, u205, u206, u207, u208, u209, u210, u211, u212], []⟩ X)) :
    Code.wp Try.prog cmB2 Q ⟨#[u0, u1, u2, u3, u4, u5, u6, u7, u8, u9, u10, u11, u12, .pointer (some ⟨g13, 0, none⟩), .int .i64 (kk : Int), u15, u16, u17, u18, u19, u20, u21, u22, u23, u24, u25, u26, u27, u28, u29, u30, u31, u32, u33, u34, u35, u36, u37, u38, u39, u40, u41, u42, u43, u44, u45, u46, u47, u48, u49, u50, u51, u52, u53, u54, u55, u56, u57, u58, u59, u60, u61, u62, u63, u64, u65, u66, u67, u68, u69, u70, u71, u72, u73, u74, u75, u76, u77, u78, u79, u80, u81, u82, u83, u84, u85, u86, u87, u88, u89, u90, u91, u92, u93, u94, u95, u96, u97, u98, u99, u100, u101, u102, u103, u104, u105, u106, u107, u108, u109, u110, u111, u112, u113, u114, u115, u116, u117, u118, u119, u120, u121, u122, u123, u124, u125, u126, u127, u128, .int .i64 1, u130, u131, u132, u133, u134, u135, u136, u137, u138, u139, u140, u141, u142, u143, u144, u145, u146, u147, u148, u149, u150, u151, u152, u153, u154, u155, u156, u157, u158, u159, u160, u161, u162, u163, u164, u165, u166, u167, u168, u169, u170, u171, u172, u173, u174, u175, u176, u177, u178, u179, u180, u181, u182, u183, u184, u185, u186, u187, u188, u189, u190, u191, u192, u193, u194, u195, u196, u197, u198, u199, u200, u201, u202, u203, u204, u205, u206, u207, u208, u209, u210, u211, u212], []⟩ X0 := by
  conv => arg 2; whnf
  obtain ⟨hcm, hd, he, BX, hM, bM, bC, hmw, hmb, hw0, hb0, hk0⟩ := HSW.out
  have n3 : X0.cell? ⟨g13, 3, none⟩ = some (.int .i64 C) := hcm.1.cell (i := 3) (by decide)
  have f3 := hcm.1.frozen 3
  have HCM := hid1 hcm
  have wC : IntKind.i64.wrap (C + 1) = C + 1 := by rw [IntKind.wrap_i64]; omega
  clear hcm hd he hM hmw hmb hw0 hb0 hk0
  go_wp2_with fail
  refine hQ.out _ _ _ _ _ _ _ _ _ _ _ _ _ _ _ _ _ _ _ _ _ _ _ _ _ _ _ _ _ _ _ _ _ _ _ _ _ _ _ _ _ _ _ _ _ _ _ _ _ _ _ _ _ _ _ _ _ _ _ _ _ ?_
  refine ⟨nmX, C + 1, M, some ⟨GC, 0, none⟩, cc, cf, HCM.out.chan (C + 1), by decide, by omega, fun h => ?_, fun h => ?_, bl_set BX HCM.out.2.2.2 _⟩
  · have := h.2.1.2.2; simp only at this; omega
  · have := h.2.1.2.2; simp only at this; omega
attribute [local go_sem ↓] Go.wp_at_zero Go.wp_at_succ
set_option maxHeartbeats 64000000 in
set_option maxRecDepth 100000 in
theorem nm_s2 (u0 u1 u2 u3 u4 u5 u6 u7 u8 u9 u10 u11 u12 u15 u16 u17 u18 u19 u20 u21 u22 u23 u24 u25 u26 u27 u28 u29 u30 u31 u32 u33 u34 u35 u36 u37 u38 u39 u40 u41 u42 u43 u44 u45 u46 u47 u48 u49 u50 u51 u52 u53 u54 u55 u56 u57 u58 u59 u60 u61 u62 u63 u64 u65 u66 u67 u68 u69 u70 u71 u72 u73 u74 u75 u76 u77 u78 u79 u80 u81 u82 u83 u84 u85 u86 u87 u88 u89 u90 u91 u92 u93 u94 u95 u96 u97 u98 u99 u100 u101 u102 u103 u104 u105 u106 u107 u108 u109 u110 u111 u112 u113 u114 u115 u116 u117 u118 u119 u120 u121 u122 u123 u124 u125 u126 u127 u128 u130 u131 u132 u133 u134 u135 u136 u137 u138 u139 u140 u141 u142 u143 u144 u145 u146 u147 u148 u149 u150 u151 u152 u153 u154 u155 u156 u157 u158 u159 u160 u161 u162 u163 u164 u165 u166 u167 u168 u169 u170 u171 u172 u173 u174 u175 u176 u177 u178 u179 u180 u181 u182 u183 u184 u185 u186 u187 u188 u189 u190 u191 u192 u193 u194 u195 u196 u197 u198 u199 u200 u201 u202 u203 u204 u205 u206 u207 u208 u209 u210 u211 u212 : Value) (H V C : Int) (M GC cc g13 kk : Nat) (cf lf : Nat → Ly) (ul : Option Addr) (ucl : Nat) (w1 X0 : World) (Q : Exit → Act → World → Prop)
    (HSW : Hid (Sw X0 w1 g13 H V C M GC cc kk cf lf)) 
    (hQ : Hid (∀ (X : World) (v130 v131 v132 v133 v134 v135 v136 v137 v138 v139 v140 v141 v142 v143 v144 v145 v146 v147 v148 v149 v150 v151 v152 v153 v154 v155 v156 v157 v158 v159 v160 v161 v162 v163 v164 v165 v166 v167 v168 v169 v170 v171 v172 v173 v174 v175 v176 v177 v178 v179 v180 v181 v182 v183 v184 v185 v186 v187 v188 v189 : Value), Sx X w1 g13 H V (mkN H V C M ul ucl lf) → Q .normal ⟨#[u0, u1, u2, u3, u4, u5, u6, u7, u8, u9, u10, u11, u12, .pointer (some ⟨g13, 0, none⟩), .int .i64 (kk : Int), u15, u16, u17, u18, u19, u20, u21, u22, u23, u24, u25, u26, u27, u28, u29, u30, u31, u32, u33, u34, u35, u36, u37, u38, u39, u40, u41, u42, u43, u44, u45, u46, u47, u48, u49, u50, u51, u52, u53, u54, u55, u56, u57, u58, u59, u60, u61, u62, u63, u64, u65, u66, u67, u68, u69, u70, u71, u72, u73, u74, u75, u76, u77, u78, u79, u80, u81, u82, u83, u84, u85, u86, u87, u88, u89, u90, u91, u92, u93, u94, u95, u96, u97, u98, u99, u100, u101, u102, u103, u104, u105, u106, u107, u108, u109, u110, u111, u112, u113, u114, u115, u116, u117, u118, u119, u120, u121, u122, u123, u124, u125, u126, u127, u128, .int .i64 2, v130, v131, v132, v133, v134, v135, v136, v137, v138, v139, v140, v141, v142, v143, v144, v145, v146, v147, v148, v149, v150, v151, v152, v153, v154, v155, v156, v157, v158, v159, v160, v161, v162, v163, v164, v165, v166, v167, v168, v169, v170, v171, v172, v173, v174, v175, v176, v177, v178, v179, v180, v181, v182, v183, v184, v185, v186, v187, v188, v189, u190, u191, u192, u193, u194, u195, u196, u197, u198, u199, u200, u201, u202, u203, u204, u205, u206, u207, u208, u209, u210, u211, u212], []⟩ X)) :
    Code.wp Try.prog cmB2 Q ⟨#[u0, u1, u2, u3, u4, u5, u6, u7, u8, u9, u10, u11, u12, .pointer (some ⟨g13, 0, none⟩), .int .i64 (kk : Int), u15, u16, u17, u18, u19, u20, u21, u22, u23, u24, u25, u26, u27, u28, u29, u30, u31, u32, u33, u34, u35, u36, u37, u38, u39, u40, u41, u42, u43, u44, u45, u46, u47, u48, u49, u50, u51, u52, u53, u54, u55, u56, u57, u58, u59, u60, u61, u62, u63, u64, u65, u66, u67, u68, u69, u70, u71, u72, u73, u74, u75, u76, u77, u78, u79, u80, u81, u82, u83, u84, u85, u86, u87, u88, u89, u90, u91, u92, u93, u94, u95, u96, u97, u98, u99, u100, u101, u102, u103, u104, u105, u106, u107, u108, u109, u110, u111, u112, u113, u114, u115, u116, u117, u118, u119, u120, u121, u122, u123, u124, u125, u126, u127, u128, .int .i64 2, u130, u131, u132, u133, u134, u135, u136, u137, u138, u139, u140, u141, u142, u143, u144, u145, u146, u147, u148, u149, u150, u151, u152, u153, u154, u155, u156, u157, u158, u159, u160, u161, u162, u163, u164, u165, u166, u167, u168, u169, u170, u171, u172, u173, u174, u175, u176, u177, u178, u179, u180, u181, u182, u183, u184, u185, u186, u187, u188, u189, u190, u191, u192, u193, u194, u195, u196, u197, u198, u199, u200, u201, u202, u203, u204, u205, u206, u207, u208, u209, u210, u211, u212], []⟩ X0 := by
  conv => arg 2; whnf
  obtain ⟨hcm, hd, he, BX, hM, bM, bC, hmw, hmb, hw0, hb0, hk0⟩ := HSW.out
  have n4 : X0.cell? ⟨g13, 4, none⟩ = some (.slice (some ⟨GC, 0, none⟩) M cc) := hcm.1.cell (i := 4) (by decide)
  have ik0 : (0 : Int) ≤ (kk : Int) := by omega
  have ik : (kk : Int) < (M : Int) := by omega
  have HLC : Hid (∀ c, c < 15 → X0.cell? ⟨GC, kk * 15 + c, none⟩ = (lyC (cf kk))[c]?) := hid1 (fun c hc => ls_cell hcm.2.1 (by omega) hc)
  obtain ⟨q, eq, -, hqb, -, hqc⟩ := own_cellsS (hcm.2.2.1 kk (by omega)).1.1 hmw
  have l12 : X0.cell? ⟨GC, kk * 15 + 12, none⟩ = some (.slice (some ⟨q, 0, none⟩) (cf kk).mw (cf kk).cw) := by have := HLC.out 12 (by decide); rw [this, ← eq]; rfl
  have hlk := (hcm.2.2.1 kk (by omega)).1
  have c0 : X0.cell? ⟨q, 0, none⟩ = some (.int .i8 ((cf kk).ws 0)) := by rw [hqc 0 (by omega)]; simp [i8L, show 0 < (cf kk).mw by omega]
  have l1 := hlk.1
  rw [eq] at l1
  have fz := l1.frozenAt 0
  have HFIN : Hid (Sx ((X0.setCell ⟨q, 0, none⟩ (.int .i8 ((cf kk).ws 0 + 1))).drew) w1 g13 H V (mkN H V C M ul ucl lf)) := hid1 (by
    have hne := ne_w (cf := cf) (lf := lf) (kk := kk) (M := M) (cc := cc) (ucl := ucl) (y := (cf kk).ws 0 + 1) (H := H) (V := V) (C := C) (ua := some ⟨GC, 0, none⟩) (ul := ul) (by omega) (he kk (by omega)) hmw (by omega)
    exact ⟨nmX, C, M, some ⟨GC, 0, none⟩, cc, _, (hcm.weight hd (k := kk) (by omega) hmw eq ((cf kk).ws 0 + 1)).keep (Below.drew (Below.refl _ _)), by decide, by omega, hne.1, hne.2, Below.drew (bl_set BX hqb _)⟩)
  generalize (cf kk).cw = cw at *
  obtain ⟨x, hx⟩ : ∃ x, (cf kk).ws 0 = x := ⟨_, rfl⟩
  rw [hx] at c0 HFIN hw0
  obtain ⟨mw, hmw'⟩ : ∃ x, (cf kk).mw = x := ⟨_, rfl⟩
  rw [hmw'] at l12 hmw
  have i0 : (0 : Int) < (mw : Int) := by omega
  have i1 : 0 < mw := by omega
  have wX : IntKind.i8.wrap (x + 1) = x + 1 := i8_idD (by omega) (by omega)
  clear hcm hd he hM bM bC hmb hb0 hk0 hx HLC eq hqc hlk l1 hmw'
  go_upto_region 31 with fail
  refine wp_region_noPanic ?_
  go_region_with (fail)
  all_goals
    refine NoPanic.normal ?_
    go_wp2_with fail
    refine hQ.out _ _ _ _ _ _ _ _ _ _ _ _ _ _ _ _ _ _ _ _ _ _ _ _ _ _ _ _ _ _ _ _ _ _ _ _ _ _ _ _ _ _ _ _ _ _ _ _ _ _ _ _ _ _ _ _ _ _ _ _ _ ?_
    exact HFIN.out
attribute [local go_sem ↓] Go.wp_at_zero Go.wp_at_succ
set_option maxHeartbeats 64000000 in
set_option maxRecDepth 100000 in
theorem nm_s3 (u0 u1 u2 u3 u4 u5 u6 u7 u8 u9 u10 u11 u12 u15 u16 u17 u18 u19 u20 u21 u22 u23 u24 u25 u26 u27 u28 u29 u30 u31 u32 u33 u34 u35 u36 u37 u38 u39 u40 u41 u42 u43 u44 u45 u46 u47 u48 u49 u50 u51 u52 u53 u54 u55 u56 u57 u58 u59 u60 u61 u62 u63 u64 u65 u66 u67 u68 u69 u70 u71 u72 u73 u74 u75 u76 u77 u78 u79 u80 u81 u82 u83 u84 u85 u86 u87 u88 u89 u90 u91 u92 u93 u94 u95 u96 u97 u98 u99 u100 u101 u102 u103 u104 u105 u106 u107 u108 u109 u110 u111 u112 u113 u114 u115 u116 u117 u118 u119 u120 u121 u122 u123 u124 u125 u126 u127 u128 u130 u131 u132 u133 u134 u135 u136 u137 u138 u139 u140 u141 u142 u143 u144 u145 u146 u147 u148 u149 u150 u151 u152 u153 u154 u155 u156 u157 u158 u159 u160 u161 u162 u163 u164 u165 u166 u167 u168 u169 u170 u171 u172 u173 u174 u175 u176 u177 u178 u179 u180 u181 u182 u183 u184 u185 u186 u187 u188 u189 u190 u191 u192 u193 u194 u195 u196 u197 u198 u199 u200 u201 u202 u203 u204 u205 u206 u207 u208 u209 u210 u211 u212 : Value) (H V C : Int) (M GC cc g13 kk : Nat) (cf lf : Nat → Ly) (ul : Option Addr) (ucl : Nat) (w1 X0 : World) (Q : Exit → Act → World → Prop)
    (HSW : Hid (Sw X0 w1 g13 H V C M GC cc kk cf lf)) 
    (hQ : Hid (∀ (X : World) (v130 v131 v132 v133 v134 v135 v136 v137 v138 v139 v140 v141 v142 v143 v144 v145 v146 v147 v148 v149 v150 v151 v152 v153 v154 v155 v156 v157 v158 v159 v160 v161 v162 v163 v164 v165 v166 v167 v168 v169 v170 v171 v172 v173 v174 v175 v176 v177 v178 v179 v180 v181 v182 v183 v184 v185 v186 v187 v188 v189 : Value), Sx X w1 g13 H V (mkN H V C M ul ucl lf) → Q .normal ⟨#[u0, u1, u2, u3, u4, u5, u6, u7, u8, u9, u10, u11, u12, .pointer (some ⟨g13, 0, none⟩), .int .i64 (kk : Int), u15, u16, u17, u18, u19, u20, u21, u22, u23, u24, u25, u26, u27, u28, u29, u30, u31, u32, u33, u34, u35, u36, u37, u38, u39, u40, u41, u42, u43, u44, u45, u46, u47, u48, u49, u50, u51, u52, u53, u54, u55, u56, u57, u58, u59, u60, u61, u62, u63, u64, u65, u66, u67, u68, u69, u70, u71, u72, u73, u74, u75, u76, u77, u78, u79, u80, u81, u82, u83, u84, u85, u86, u87, u88, u89, u90, u91, u92, u93, u94, u95, u96, u97, u98, u99, u100, u101, u102, u103, u104, u105, u106, u107, u108, u109, u110, u111, u112, u113, u114, u115, u116, u117, u118, u119, u120, u121, u122, u123, u124, u125, u126, u127, u128, .int .i64 3, v130, v131, v132, v133, v134, v135, v136, v137, v138, v139, v140, v141, v142, v143, v144, v145, v146, v147, v148, v149, v150, v151, v152, v153, v154, v155, v156, v157, v158, v159, v160, v161, v162, v163, v164, v165, v166, v167, v168, v169, v170, v171, v172, v173, v174, v175, v176, v177, v178, v179, v180, v181, v182, v183, v184, v185, v186, v187, v188, v189, u190, u191, u192, u193, u194, u195, u196, u197, u198, u199, u200, u201, u202, u203, u204, u205, u206, u207, u208, u209, u210, u211, u212], []⟩ X)) :
    Code.wp Try.prog cmB2 Q ⟨#[u0, u1, u2, u3, u4, u5, u6, u7, u8, u9, u10, u11, u12, .pointer (some ⟨g13, 0, none⟩), .int .i64 (kk : Int), u15, u16, u17, u18, u19, u20, u21, u22, u23, u24, u25, u26, u27, u28, u29, u30, u31, u32, u33, u34, u35, u36, u37, u38, u39, u40, u41, u42, u43, u44, u45, u46, u47, u48, u49, u50, u51, u52, u53, u54, u55, u56, u57, u58, u59, u60, u61, u62, u63, u64, u65, u66, u67, u68, u69, u70, u71, u72, u73, u74, u75, u76, u77, u78, u79, u80, u81, u82, u83, u84, u85, u86, u87, u88, u89, u90, u91, u92, u93, u94, u95, u96, u97, u98, u99, u100, u101, u102, u103, u104, u105, u106, u107, u108, u109, u110, u111, u112, u113, u114, u115, u116, u117, u118, u119, u120, u121, u122, u123, u124, u125, u126, u127, u128, .int .i64 3, u130, u131, u132, u133, u134, u135, u136, u137, u138, u139, u140, u141, u142, u143, u144, u145, u146, u147, u148, u149, u150, u151, u152, u153, u154, u155, u156, u157, u158, u159, u160, u161, u162, u163, u164, u165, u166, u167, u168, u169, u170, u171, u172, u173, u174, u175, u176, u177, u178, u179, u180, u181, u182, u183, u184, u185, u186, u187, u188, u189, u190, u191, u192, u193, u194, u195, u196, u197, u198, u199, u200, u201, u202, u203, u204, u205, u206, u207, u208, u209, u210, u211, u212], []⟩ X0 := by
  conv => arg 2; whnf
  obtain ⟨hcm, hd, he, BX, hM, bM, bC, hmw, hmb, hw0, hb0, hk0⟩ := HSW.out
  have n4 : X0.cell? ⟨g13, 4, none⟩ = some (.slice (some ⟨GC, 0, none⟩) M cc) := hcm.1.cell (i := 4) (by decide)
  have ik0 : (0 : Int) ≤ (kk : Int) := by omega
  have ik : (kk : Int) < (M : Int) := by omega
  have HLC : Hid (∀ c, c < 15 → X0.cell? ⟨GC, kk * 15 + c, none⟩ = (lyC (cf kk))[c]?) := hid1 (fun c hc => ls_cell hcm.2.1 (by omega) hc)
  obtain ⟨q, eq, -, hqb, -, hqc⟩ := own_cellsS (hcm.2.2.1 kk (by omega)).1.2.2 hmb
  have l14 : X0.cell? ⟨GC, kk * 15 + 14, none⟩ = some (.slice (some ⟨q, 0, none⟩) (cf kk).mb (cf kk).cb) := by have := HLC.out 14 (by decide); rw [this, ← eq]; rfl
  have hlk := (hcm.2.2.1 kk (by omega)).1
  have c0 : X0.cell? ⟨q, 0, none⟩ = some (.int .i64 ((cf kk).bs 0)) := by rw [hqc 0 (by omega)]; simp [i64L, show 0 < (cf kk).mb by omega]
  have l1 := hlk.2.2
  rw [eq] at l1
  have fz := l1.frozenAt 0
  have HFIN : Hid (Sx (X0.setCell ⟨q, 0, none⟩ (.int .i64 ((cf kk).bs 0 + 1))) w1 g13 H V (mkN H V C M ul ucl lf)) := hid1 (by
    have hne := ne_b (cf := cf) (lf := lf) (kk := kk) (M := M) (cc := cc) (ucl := ucl) (y := (cf kk).bs 0 + 1) (H := H) (V := V) (C := C) (ua := some ⟨GC, 0, none⟩) (ul := ul) (by omega) (he kk (by omega)) hmb (by omega)
    exact ⟨nmX, C, M, some ⟨GC, 0, none⟩, cc, _, hcm.bias hd (k := kk) (by omega) hmb eq ((cf kk).bs 0 + 1), by decide, by omega, hne.1, hne.2, bl_set BX hqb _⟩)
  generalize (cf kk).cb = cb at *
  obtain ⟨x, hx⟩ : ∃ x, (cf kk).bs 0 = x := ⟨_, rfl⟩
  rw [hx] at c0 HFIN hb0
  obtain ⟨mb, hmb'⟩ : ∃ x, (cf kk).mb = x := ⟨_, rfl⟩
  rw [hmb'] at l14 hmb
  have i0 : (0 : Int) < (mb : Int) := by omega
  have i1 : 0 < mb := by omega
  have wX : IntKind.i64.wrap (x + 1) = x + 1 := by rw [IntKind.wrap_i64]; omega
  clear hcm hd he hM bM bC hmw hw0 hk0 hx HLC eq hqc hlk l1 hmb' BX
  go_wp2_with fail
  refine hQ.out _ _ _ _ _ _ _ _ _ _ _ _ _ _ _ _ _ _ _ _ _ _ _ _ _ _ _ _ _ _ _ _ _ _ _ _ _ _ _ _ _ _ _ _ _ _ _ _ _ _ _ _ _ _ _ _ _ _ _ _ _ ?_
  exact HFIN.out
attribute [local go_sem ↓] Go.wp_at_zero Go.wp_at_succ
set_option maxHeartbeats 64000000 in
set_option maxRecDepth 100000 in
theorem nm_s4 (u0 u1 u2 u3 u4 u5 u6 u7 u8 u9 u10 u11 u12 u15 u16 u17 u18 u19 u20 u21 u22 u23 u24 u25 u26 u27 u28 u29 u30 u31 u32 u33 u34 u35 u36 u37 u38 u39 u40 u41 u42 u43 u44 u45 u46 u47 u48 u49 u50 u51 u52 u53 u54 u55 u56 u57 u58 u59 u60 u61 u62 u63 u64 u65 u66 u67 u68 u69 u70 u71 u72 u73 u74 u75 u76 u77 u78 u79 u80 u81 u82 u83 u84 u85 u86 u87 u88 u89 u90 u91 u92 u93 u94 u95 u96 u97 u98 u99 u100 u101 u102 u103 u104 u105 u106 u107 u108 u109 u110 u111 u112 u113 u114 u115 u116 u117 u118 u119 u120 u121 u122 u123 u124 u125 u126 u127 u128 u130 u131 u132 u133 u134 u135 u136 u137 u138 u139 u140 u141 u142 u143 u144 u145 u146 u147 u148 u149 u150 u151 u152 u153 u154 u155 u156 u157 u158 u159 u160 u161 u162 u163 u164 u165 u166 u167 u168 u169 u170 u171 u172 u173 u174 u175 u176 u177 u178 u179 u180 u181 u182 u183 u184 u185 u186 u187 u188 u189 u190 u191 u192 u193 u194 u195 u196 u197 u198 u199 u200 u201 u202 u203 u204 u205 u206 u207 u208 u209 u210 u211 u212 : Value) (H V C : Int) (M GC cc g13 kk : Nat) (cf lf : Nat → Ly) (ul : Option Addr) (ucl : Nat) (w1 X0 : World) (Q : Exit → Act → World → Prop)
    (HSW : Hid (Sw X0 w1 g13 H V C M GC cc kk cf lf)) 
    (hQ : Hid (∀ (X : World) (v130 v131 v132 v133 v134 v135 v136 v137 v138 v139 v140 v141 v142 v143 v144 v145 v146 v147 v148 v149 v150 v151 v152 v153 v154 v155 v156 v157 v158 v159 v160 v161 v162 v163 v164 v165 v166 v167 v168 v169 v170 v171 v172 v173 v174 v175 v176 v177 v178 v179 v180 v181 v182 v183 v184 v185 v186 v187 v188 v189 : Value), Sx X w1 g13 H V (mkN H V C M ul ucl lf) → Q .normal ⟨#[u0, u1, u2, u3, u4, u5, u6, u7, u8, u9, u10, u11, u12, .pointer (some ⟨g13, 0, none⟩), .int .i64 (kk : Int), u15, u16, u17, u18, u19, u20, u21, u22, u23, u24, u25, u26, u27, u28, u29, u30, u31, u32, u33, u34, u35, u36, u37, u38, u39, u40, u41, u42, u43, u44, u45, u46, u47, u48, u49, u50, u51, u52, u53, u54, u55, u56, u57, u58, u59, u60, u61, u62, u63, u64, u65, u66, u67, u68, u69, u70, u71, u72, u73, u74, u75, u76, u77, u78, u79, u80, u81, u82, u83, u84, u85, u86, u87, u88, u89, u90, u91, u92, u93, u94, u95, u96, u97, u98, u99, u100, u101, u102, u103, u104, u105, u106, u107, u108, u109, u110, u111, u112, u113, u114, u115, u116, u117, u118, u119, u120, u121, u122, u123, u124, u125, u126, u127, u128, .int .i64 4, v130, v131, v132, v133, v134, v135, v136, v137, v138, v139, v140, v141, v142, v143, v144, v145, v146, v147, v148, v149, v150, v151, v152, v153, v154, v155, v156, v157, v158, v159, v160, v161, v162, v163, v164, v165, v166, v167, v168, v169, v170, v171, v172, v173, v174, v175, v176, v177, v178, v179, v180, v181, v182, v183, v184, v185, v186, v187, v188, v189, u190, u191, u192, u193, u194, u195, u196, u197, u198, u199, u200, u201, u202, u203, u204, u205, u206, u207, u208, u209, u210, u211, u212], []⟩ X)) :
    Code.wp Try.prog cmB2 Q ⟨#[u0, u1, u2, u3, u4, u5, u6, u7, u8, u9, u10, u11, u12, .pointer (some ⟨g13, 0, none⟩), .int .i64 (kk : Int), u15, u16, u17, u18, u19, u20, u21, u22, u23, u24, u25, u26, u27, u28, u29, u30, u31, u32, u33, u34, u35, u36, u37, u38, u39, u40, u41, u42, u43, u44, u45, u46, u47, u48, u49, u50, u51, u52, u53, u54, u55, u56, u57, u58, u59, u60, u61, u62, u63, u64, u65, u66, u67, u68, u69, u70, u71, u72, u73, u74, u75, u76, u77, u78, u79, u80, u81, u82, u83, u84, u85, u86, u87, u88, u89, u90, u91, u92, u93, u94, u95, u96, u97, u98, u99, u100, u101, u102, u103, u104, u105, u106, u107, u108, u109, u110, u111, u112, u113, u114, u115, u116, u117, u118, u119, u120, u121, u122, u123, u124, u125, u126, u127, u128, .int .i64 4, u130, u131, u132, u133, u134, u135, u136, u137, u138, u139, u140, u141, u142, u143, u144, u145, u146, u147, u148, u149, u150, u151, u152, u153, u154, u155, u156, u157, u158, u159, u160, u161, u162, u163, u164, u165, u166, u167, u168, u169, u170, u171, u172, u173, u174, u175, u176, u177, u178, u179, u180, u181, u182, u183, u184, u185, u186, u187, u188, u189, u190, u191, u192, u193, u194, u195, u196, u197, u198, u199, u200, u201, u202, u203, u204, u205, u206, u207, u208, u209, u210, u211, u212], []⟩ X0 := by
  conv => arg 2; whnf
  obtain ⟨hcm, hd, he, BX, hM, bM, bC, hmw, hmb, hw0, hb0, hk0⟩ := HSW.out
  have n4 : X0.cell? ⟨g13, 4, none⟩ = some (.slice (some ⟨GC, 0, none⟩) M cc) := hcm.1.cell (i := 4) (by decide)
  have ik : (0 : Int) < (M : Int) := by omega
  have ik1 : 0 < M := by omega
  have c2 : X0.cell? ⟨GC, 2, none⟩ = some (.int .i64 (cf 0).k) := by have := ls_cell hcm.2.1 (i := 0) (c := 2) (by omega) (by decide); rwa [Nat.zero_mul, Nat.zero_add] at this
  have fz := hcm.2.1.frozenAt 2
  have HFIN : Hid (Sx (X0.setCell ⟨GC, 2, none⟩ (.int .i64 ((cf 0).k + 1))) w1 g13 H V (mkN H V C M ul ucl lf)) := hid1 (by
    have hne := ne_k (cf := cf) (lf := lf) (M := M) (cc := cc) (ucl := ucl) (y := (cf 0).k + 1) (H := H) (V := V) (C := C) (ua := some ⟨GC, 0, none⟩) (ul := ul) (by omega) (he 0 (by omega)) (by omega)
    exact ⟨nmX, C, M, some ⟨GC, 0, none⟩, cc, _, hcm.outs (by omega) ((cf 0).k + 1), by decide, by omega, hne.1, hne.2, bl_set BX (hcm.2.1.lt GC rfl).1 _⟩)
  obtain ⟨x, hx⟩ : ∃ x, (cf 0).k = x := ⟨_, rfl⟩
  rw [hx] at c2 HFIN hk0
  have wX : IntKind.i64.wrap (x + 1) = x + 1 := by rw [IntKind.wrap_i64]; omega
  clear hcm hd he hM bM bC hmw hmb hw0 hb0 hx BX
  go_wp2_with fail
  refine hQ.out _ _ _ _ _ _ _ _ _ _ _ _ _ _ _ _ _ _ _ _ _ _ _ _ _ _ _ _ _ _ _ _ _ _ _ _ _ _ _ _ _ _ _ _ _ _ _ _ _ _ _ _ _ _ _ _ _ _ _ _ _ ?_
  exact HFIN.out
attribute [local go_sem ↓] Go.wp_at_zero Go.wp_at_succ
set_option maxHeartbeats 64000000 in
set_option maxRecDepth 100000 in
theorem nm_s5 (u0 u1 u2 u3 u4 u5 u6 u7 u8 u9 u10 u11 u12 u15 u16 u17 u18 u19 u20 u21 u22 u23 u24 u25 u26 u27 u28 u29 u30 u31 u32 u33 u34 u35 u36 u37 u38 u39 u40 u41 u42 u43 u44 u45 u46 u47 u48 u49 u50 u51 u52 u53 u54 u55 u56 u57 u58 u59 u60 u61 u62 u63 u64 u65 u66 u67 u68 u69 u70 u71 u72 u73 u74 u75 u76 u77 u78 u79 u80 u81 u82 u83 u84 u85 u86 u87 u88 u89 u90 u91 u92 u93 u94 u95 u96 u97 u98 u99 u100 u101 u102 u103 u104 u105 u106 u107 u108 u109 u110 u111 u112 u113 u114 u115 u116 u117 u118 u119 u120 u121 u122 u123 u124 u125 u126 u127 u128 u130 u131 u132 u133 u134 u135 u136 u137 u138 u139 u140 u141 u142 u143 u144 u145 u146 u147 u148 u149 u150 u151 u152 u153 u154 u155 u156 u157 u158 u159 u160 u161 u162 u163 u164 u165 u166 u167 u168 u169 u170 u171 u172 u173 u174 u175 u176 u177 u178 u179 u180 u181 u182 u183 u184 u185 u186 u187 u188 u189 u190 u191 u192 u193 u194 u195 u196 u197 u198 u199 u200 u201 u202 u203 u204 u205 u206 u207 u208 u209 u210 u211 u212 : Value) (H V C : Int) (M GC cc g13 kk : Nat) (cf lf : Nat → Ly) (ul : Option Addr) (ucl : Nat) (w1 X0 : World) (t : Int) (Q : Exit → Act → World → Prop)
    (HSW : Hid (Sw X0 w1 g13 H V C M GC cc kk cf lf)) (e0 : (t == 0) = false) (e1 : (t == 1) = false) (e2 : (t == 2) = false) (e3 : (t == 3) = false) (e4 : (t == 4) = false)
    (hQ : Hid (∀ (X : World) (v130 v131 v132 v133 v134 v135 v136 v137 v138 v139 v140 v141 v142 v143 v144 v145 v146 v147 v148 v149 v150 v151 v152 v153 v154 v155 v156 v157 v158 v159 v160 v161 v162 v163 v164 v165 v166 v167 v168 v169 v170 v171 v172 v173 v174 v175 v176 v177 v178 v179 v180 v181 v182 v183 v184 v185 v186 v187 v188 v189 : Value), Sx X w1 g13 H V (mkN H V C M ul ucl lf) → Q .normal ⟨#[u0, u1, u2, u3, u4, u5, u6, u7, u8, u9, u10, u11, u12, .pointer (some ⟨g13, 0, none⟩), .int .i64 (kk : Int), u15, u16, u17, u18, u19, u20, u21, u22, u23, u24, u25, u26, u27, u28, u29, u30, u31, u32, u33, u34, u35, u36, u37, u38, u39, u40, u41, u42, u43, u44, u45, u46, u47, u48, u49, u50, u51, u52, u53, u54, u55, u56, u57, u58, u59, u60, u61, u62, u63, u64, u65, u66, u67, u68, u69, u70, u71, u72, u73, u74, u75, u76, u77, u78, u79, u80, u81, u82, u83, u84, u85, u86, u87, u88, u89, u90, u91, u92, u93, u94, u95, u96, u97, u98, u99, u100, u101, u102, u103, u104, u105, u106, u107, u108, u109, u110, u111, u112, u113, u114, u115, u116, u117, u118, u119, u120, u121, u122, u123, u124, u125, u126, u127, u128, .int .i64 t, v130, v131, v132, v133, v134, v135, v136, v137, v138, v139, v140, v141, v142, v143, v144, v145, v146, v147, v148, v149, v150, v151, v152, v153, v154, v155, v156, v157, v158, v159, v160, v161, v162, v163, v164, v165, v166, v167, v168, v169, v170, v171, v172, v173, v174, v175, v176, v177, v178, v179, v180, v181, v182, v183, v184, v185, v186, v187, v188, v189, u190, u191, u192, u193, u194, u195, u196, u197, u198, u199, u200, u201, u202, u203, u204, u205, u206, u207, u208, u209, u210, u211, u212], []⟩ X)) :
    Code.wp Try.prog cmB2 Q ⟨#[u0, u1, u2, u3, u4, u5, u6, u7, u8, u9, u10, u11, u12, .pointer (some ⟨g13, 0, none⟩), .int .i64 (kk : Int), u15, u16, u17, u18, u19, u20, u21, u22, u23, u24, u25, u26, u27, u28, u29, u30, u31, u32, u33, u34, u35, u36, u37, u38, u39, u40, u41, u42, u43, u44, u45, u46, u47, u48, u49, u50, u51, u52, u53, u54, u55, u56, u57, u58, u59, u60, u61, u62, u63, u64, u65, u66, u67, u68, u69, u70, u71, u72, u73, u74, u75, u76, u77, u78, u79, u80, u81, u82, u83, u84, u85, u86, u87, u88, u89, u90, u91, u92, u93, u94, u95, u96, u97, u98, u99, u100, u101, u102, u103, u104, u105, u106, u107, u108, u109, u110, u111, u112, u113, u114, u115, u116, u117, u118, u119, u120, u121, u122, u123, u124, u125, u126, u127, u128, .int .i64 t, u130, u131, u132, u133, u134, u135, u136, u137, u138, u139, u140, u141, u142, u143, u144, u145, u146, u147, u148, u149, u150, u151, u152, u153, u154, u155, u156, u157, u158, u159, u160, u161, u162, u163, u164, u165, u166, u167, u168, u169, u170, u171, u172, u173, u174, u175, u176, u177, u178, u179, u180, u181, u182, u183, u184, u185, u186, u187, u188, u189, u190, u191, u192, u193, u194, u195, u196, u197, u198, u199, u200, u201, u202, u203, u204, u205, u206, u207, u208, u209, u210, u211, u212], []⟩ X0 := by
  conv => arg 2; whnf
  obtain ⟨hcm, hd, he, BX, hM, bM, bC, hmw, hmb, hw0, hb0, hk0⟩ := HSW.out
  have n4 : X0.cell? ⟨g13, 4, none⟩ = some (.slice (some ⟨GC, 0, none⟩) M cc) := hcm.1.cell (i := 4) (by decide)
  have HCM := hid1 hcm
  have HBX := hid1 BX
  have HM4 : Hid (M + 1 ≤ 64) := hid1 (by omega)
  have hMb : M ≤ 1000000000 := by omega
  have hbs : w1.heap.size ≤ X0.heap.size := BX.size
  clear hcm hd he hM bM bC hmw hmb hw0 hb0 hk0 BX
  go_wp2_with (at_builtin; refine app_lyD rfl _ _ rfl w1.heap.size (.slice (some ⟨GC, 0, none⟩) M cc) (lyLs cf M) M (by go_simp) (own_bl HCM.out.2.1 (bl_alloc (Below.refl _ _) _)) X0.heap.size zL 1 (by go_simp) (lp_new' rfl zL _) (by omega) (by simp; omega) ?_; intro v3 y3 own3 gr3; obtain ⟨a3, c3, rfl⟩ := own_isP own3; have HFIN := hid1 (HCM.out.more own3 gr3); have R3 := World.rowIs.of_block HCM.out.1 ((gr3.block g13 (by have := HCM.out.1.lt; simp; omega) (fun e => own_ne_row HCM.out.2.1 HCM.out.1 (by decide) g13 e.symm rfl)).trans ((bl_alloc (Below.refl X0.heap.size X0) (lyo zL)).block g13 HCM.out.1.lt)); have m4 : y3.cell? ⟨g13, 4, none⟩ = some (.slice (some ⟨GC, 0, none⟩) M cc) := R3.cell (i := 4) (by decide); have fz4 := R3.frozen 4; have HB3 := hid1 (gr_bel gr3 (show Below w1.heap.size w1 _ from bl_alloc HBX.out _) (fun q hq => (HCM.out.2.1.lt q hq).1)); clear own3 gr3 R3)
  refine hQ.out _ _ _ _ _ _ _ _ _ _ _ _ _ _ _ _ _ _ _ _ _ _ _ _ _ _ _ _ _ _ _ _ _ _ _ _ _ _ _ _ _ _ _ _ _ _ _ _ _ _ _ _ _ _ _ _ _ _ _ _ _ ?_
  exact ⟨nmX, C, M + 1, a3, c3, _, HFIN.out, by decide, HM4.out, fun h => (by have := h.2.2.1; simp only at this; omega), fun h => (by have := h.2.2.1; simp only at this; omega), bl_set HB3.out HCM.out.2.2.2 _⟩
end Go.Proofs.Ytjjahenmhkkaaaa.Nn
/- NETMADE: what the last layer is; the walk's end. -/
namespace Go.Proofs.Ytjjahenmhkkaaaa.Nn
open Go.RowKit

theorem nm_facts {H V C : Int} {M kk uc : Nat} {ua : Option Addr} {lf : Nat → Ly} (hz : chE (mkN H V C M ua uc lf) = 0) (hM : M = kk + 1) : 1 ≤ (lf kk).mw ∧ 1 ≤ (lf kk).mb ∧ (-1 ≤ (lf kk).ws 0 ∧ (lf kk).ws 0 ≤ 1) ∧ (-2147483647 ≤ (lf kk).bs 0 ∧ (lf kk).bs 0 ≤ 2147483647) ∧ (0 ≤ (lf 0).k ∧ (lf 0).k ≤ 4096) := by
  obtain ⟨h2, hb, -, -, hk1, -, -⟩ := last_ok hz (m := kk) hM
  have h2 : (lf kk).kd = 2 := h2
  have hb : ((lf kk).mb : Int) = (lf kk).k := hb
  have hk1 : 1 ≤ (lf kk).k := hk1
  obtain ⟨-, hf⟩ := fl_all hz
  have f1 : faE (lf kk) (sp (mkN H V C M ua uc lf) kk) = 0 := hf kk (by show kk < M; omega)
  have f0 : faE (lf 0) (sp (mkN H V C M ua uc lf) 0) = 0 := hf 0 (by show 0 < M; omega)
  obtain ⟨-, -, K, F, e1, e2, e3, e4, e5, e6, e7, e8, e9⟩ := lay_w (sp_all hz kk (by show kk ≤ M; omega)) f1 (by omega)
  have hmw : 1 ≤ (lf kk).mw := by rw [e5]; exact Nat.mul_pos e3 e6
  have hw : okW (lf kk).wt ((lf kk).ws 0) := by
    have g := f1
    unfold faE at g
    rw [if_neg (by omega), if_pos h2] at g
    have e : wsE (lf kk) (sp (mkN H V C M ua uc lf) kk) = 0 := frF_z g 4 (by decide)
    exact (zero_else (by decide) e).2 0 (by omega)
  have h03 : ¬ (lf 0).kd = 3 := fun h => by
    have := (win_ok f0 (by omega)).2.2.2.2.2 h
    rw [(la_sp _ 0).2] at this
    simp at this
  obtain ⟨-, -, K0, F0, g1, g2, g3, g4, -⟩ := lay_w (sp_all hz 0 (Nat.zero_le _)) f0 h03
  have hmb : 1 ≤ (lf kk).mb := by omega
  exact ⟨hmw, hmb, by unfold okW at hw; omega, e9 0 (by omega), by omega, by omega⟩
noncomputable def cm36 : Code := (Try.f4.body.bind (fromP (isReg 36))).getD .skip
attribute [local go_sem ↓] Go.wp_at_zero Go.wp_at_succ
set_option maxHeartbeats 64000000 in
set_option maxRecDepth 100000 in
theorem nm_tail (u0 u1 u2 u3 u4 u6 u7 u8 u9 u10 u11 u12 u14 u15 u16 u17 u18 u19 u20 u21 u22 u23 u24 u25 u26 u27 u28 u29 u30 u31 u32 u33 u34 u35 u36 u37 u38 u39 u40 u41 u42 u43 u44 u45 u46 u47 u48 u49 u50 u51 u52 u53 u54 u55 u56 u57 u58 u59 u60 u61 u62 u63 u64 u65 u66 u67 u68 u69 u70 u71 u72 u73 u74 u75 u76 u77 u78 u79 u80 u81 u82 u83 u84 u85 u86 u87 u88 u89 u90 u91 u92 u93 u94 u95 u96 u97 u98 u99 u100 u101 u102 u103 u104 u105 u106 u107 u108 u109 u110 u111 u112 u113 u114 u115 u116 u117 u118 u119 u120 u121 u122 u123 u124 u125 u126 u127 u128 u129 u130 u131 u132 u133 u134 u135 u136 u137 u138 u139 u140 u141 u142 u143 u144 u145 u146 u147 u148 u149 u150 u151 u152 u153 u154 u155 u156 u157 u158 u159 u160 u161 u162 u163 u164 u165 u166 u167 u168 u169 u170 u171 u172 u173 u174 u175 u176 u177 u178 u179 u180 u181 u182 u183 u184 u185 u186 u187 u188 u189 u190 u191 u192 u193 u194 u195 u196 u197 u198 u199 u200 u201 u202 u203 u204 u205 u206 u207 u208 u209 u210 u211 u212 : Value) (H V C : Int) (M uc g5 g13 : Nat) (ul : Option Addr) (lf : Nat → Ly) (w1 X : World) (Q : Exit → Act → World → Prop)
    (HZ : Hid (chE (mkN H V C M ul uc lf) = 0 ∧ chA (mkN H V C M ul uc lf) = 0)) (HNW : Hid (NtW w1 (mkN H V C M ul uc lf))) (HN5 : Hid (w1.rowIs g5 28 5 (netF nmX H V C (.slice ul M uc)))) (HSX : Hid (Sx X w1 g13 H V (mkN H V C M ul uc lf)))
    (hQ : Hid (∀ (X : World) (v7 v15 v190 v191 v192 v193 v194 v195 v196 v197 v198 v199 v200 v201 v202 v203 v204 v205 v206 v207 v208 v209 v210 v211 v212 : Value), Below w1.heap.size w1 X → Q .ret ⟨#[u0, u1, u2, u3, .bool true, .pointer (some ⟨g5, 0, none⟩), u6, v7, u8, u9, u10, u11, u12, .pointer (some ⟨g13, 0, none⟩), u14, v15, u16, u17, u18, u19, u20, u21, u22, u23, u24, u25, u26, u27, u28, u29, u30, u31, u32, u33, u34, u35, u36, u37, u38, u39, u40, u41, u42, u43, u44, u45, u46, u47, u48, u49, u50, u51, u52, u53, u54, u55, u56, u57, u58, u59, u60, u61, u62, u63, u64, u65, u66, u67, u68, u69, u70, u71, u72, u73, u74, u75, u76, u77, u78, u79, u80, u81, u82, u83, u84, u85, u86, u87, u88, u89, u90, u91, u92, u93, u94, u95, u96, u97, u98, u99, u100, u101, u102, u103, u104, u105, u106, u107, u108, u109, u110, u111, u112, u113, u114, u115, u116, u117, u118, u119, u120, u121, u122, u123, u124, u125, u126, u127, u128, u129, u130, u131, u132, u133, u134, u135, u136, u137, u138, u139, u140, u141, u142, u143, u144, u145, u146, u147, u148, u149, u150, u151, u152, u153, u154, u155, u156, u157, u158, u159, u160, u161, u162, u163, u164, u165, u166, u167, u168, u169, u170, u171, u172, u173, u174, u175, u176, u177, u178, u179, u180, u181, u182, u183, u184, u185, u186, u187, u188, u189, v190, v191, v192, v193, v194, v195, v196, v197, v198, v199, v200, v201, v202, v203, v204, v205, v206, v207, v208, v209, v210, v211, v212], []⟩ X)) :
    Code.wp Try.prog cm36 Q ⟨#[u0, u1, u2, u3, u4, .pointer (some ⟨g5, 0, none⟩), u6, u7, u8, u9, u10, u11, u12, .pointer (some ⟨g13, 0, none⟩), u14, u15, u16, u17, u18, u19, u20, u21, u22, u23, u24, u25, u26, u27, u28, u29, u30, u31, u32, u33, u34, u35, u36, u37, u38, u39, u40, u41, u42, u43, u44, u45, u46, u47, u48, u49, u50, u51, u52, u53, u54, u55, u56, u57, u58, u59, u60, u61, u62, u63, u64, u65, u66, u67, u68, u69, u70, u71, u72, u73, u74, u75, u76, u77, u78, u79, u80, u81, u82, u83, u84, u85, u86, u87, u88, u89, u90, u91, u92, u93, u94, u95, u96, u97, u98, u99, u100, u101, u102, u103, u104, u105, u106, u107, u108, u109, u110, u111, u112, u113, u114, u115, u116, u117, u118, u119, u120, u121, u122, u123, u124, u125, u126, u127, u128, u129, u130, u131, u132, u133, u134, u135, u136, u137, u138, u139, u140, u141, u142, u143, u144, u145, u146, u147, u148, u149, u150, u151, u152, u153, u154, u155, u156, u157, u158, u159, u160, u161, u162, u163, u164, u165, u166, u167, u168, u169, u170, u171, u172, u173, u174, u175, u176, u177, u178, u179, u180, u181, u182, u183, u184, u185, u186, u187, u188, u189, u190, u191, u192, u193, u194, u195, u196, u197, u198, u199, u200, u201, u202, u203, u204, u205, u206, u207, u208, u209, u210, u211, u212], []⟩ X := by
  conv => arg 2; whnf
  obtain ⟨nm2, C2, M2, ua2, uc2, cf2, CM, hnm, hM2, ne1, ne2, BX⟩ := HSX.out
  have HCM := hid1 CM
  have HBX := hid1 BX
  have CK : Hid (∀ W, Below w1.heap.size w1 W → Calls Try.prog 9 #[ntv (mkN H V C M ul uc lf)] W fun e w' => e = .returned (.tuple #[.int .i64 0, .int .i64 0]) ∧ Below W.heap.size W w') := hid1 (fun W hW => by
    have := ncheck_any (mkN H V C M ul uc lf) W (HNW.out.keep hW)
    rw [HZ.out.1, HZ.out.2] at this
    exact this)
  have CE : Hid (∀ W, Below X.heap.size X W → Calls Try.prog 13 #[ntv ⟨nm2, H, V, C2, ua2, M2, uc2, cf2⟩, ntv (mkN H V C M ul uc lf)] W fun e w' => e = .returned (.bool false) ∧ Below W.heap.size W w') := hid1 (fun W hW => by
    have := nEq_any ⟨nm2, H, V, C2, ua2, M2, uc2, cf2⟩ (mkN H V C M ul uc lf) W ((HCM.out.net hnm hM2).keep hW) (HNW.out.keep (bl_step HBX.out hW))
    rw [decide_eq_false ne1] at this
    exact this)
  have CF : Hid (∀ W, Below X.heap.size X W → Calls Try.prog 13 #[ntv (mkN H V C M ul uc lf), ntv ⟨nm2, H, V, C2, ua2, M2, uc2, cf2⟩] W fun e w' => e = .returned (.bool false) ∧ Below W.heap.size W w') := hid1 (fun W hW => by
    have := nEq_any (mkN H V C M ul uc lf) ⟨nm2, H, V, C2, ua2, M2, uc2, cf2⟩ W (HNW.out.keep (bl_step HBX.out hW)) ((HCM.out.net hnm hM2).keep hW)
    rw [decide_eq_false ne2] at this
    exact this)
  have R5 := World.rowIs.of_block HN5.out (BX.block _ HN5.out.lt)
  have HR5 := hid1 R5
  have a0 : X.cell? ⟨g5, 0, none⟩ = some (.string nmX) := R5.cell (i := 0) (by decide)
  have a1 : X.cell? ⟨g5, 1, none⟩ = some (.int .i64 H) := R5.cell (i := 1) (by decide)
  have a2 : X.cell? ⟨g5, 2, none⟩ = some (.int .i64 V) := R5.cell (i := 2) (by decide)
  have a3 : X.cell? ⟨g5, 3, none⟩ = some (.int .i64 C) := R5.cell (i := 3) (by decide)
  have a4 : X.cell? ⟨g5, 4, none⟩ = some (.slice ul M uc) := R5.cell (i := 4) (by decide)
  clear CM ne1 ne2 R5 hnm hM2
  go_wp2_with fail
  refine (CK.out _ BX).mono ?_
  rintro e z ⟨rfl, hb⟩
  have HB := hid1 hb
  clear a0 a1 a2 a3 a4
  have R5 := World.rowIs.of_block HR5.out (hb.block _ HR5.out.lt)
  have R3 := World.rowIs.of_block HCM.out.1 (hb.block _ HCM.out.1.lt)
  have a0 : z.cell? ⟨g5, 0, none⟩ = some (.string nmX) := R5.cell (i := 0) (by decide)
  have a1 : z.cell? ⟨g5, 1, none⟩ = some (.int .i64 H) := R5.cell (i := 1) (by decide)
  have a2 : z.cell? ⟨g5, 2, none⟩ = some (.int .i64 V) := R5.cell (i := 2) (by decide)
  have a3 : z.cell? ⟨g5, 3, none⟩ = some (.int .i64 C) := R5.cell (i := 3) (by decide)
  have a4 : z.cell? ⟨g5, 4, none⟩ = some (.slice ul M uc) := R5.cell (i := 4) (by decide)
  have b0 : z.cell? ⟨g13, 0, none⟩ = some (.string nm2) := R3.cell (i := 0) (by decide)
  have b1 : z.cell? ⟨g13, 1, none⟩ = some (.int .i64 H) := R3.cell (i := 1) (by decide)
  have b2 : z.cell? ⟨g13, 2, none⟩ = some (.int .i64 V) := R3.cell (i := 2) (by decide)
  have b3 : z.cell? ⟨g13, 3, none⟩ = some (.int .i64 C2) := R3.cell (i := 3) (by decide)
  have b4 : z.cell? ⟨g13, 4, none⟩ = some (.slice ua2 M2 uc2) := R3.cell (i := 4) (by decide)
  have HR6 := hid1 R5
  have HR3 := hid1 R3
  clear R5 R3
  go_wp2_with fail
  refine (CE.out _ hb).mono ?_
  rintro e z2 ⟨rfl, hb2⟩
  clear a0 a1 a2 a3 a4 b0 b1 b2 b3 b4
  have R5 := World.rowIs.of_block HR6.out (hb2.block _ HR6.out.lt)
  have R3 := World.rowIs.of_block HR3.out (hb2.block _ HR3.out.lt)
  have a0 : z2.cell? ⟨g5, 0, none⟩ = some (.string nmX) := R5.cell (i := 0) (by decide)
  have a1 : z2.cell? ⟨g5, 1, none⟩ = some (.int .i64 H) := R5.cell (i := 1) (by decide)
  have a2 : z2.cell? ⟨g5, 2, none⟩ = some (.int .i64 V) := R5.cell (i := 2) (by decide)
  have a3 : z2.cell? ⟨g5, 3, none⟩ = some (.int .i64 C) := R5.cell (i := 3) (by decide)
  have a4 : z2.cell? ⟨g5, 4, none⟩ = some (.slice ul M uc) := R5.cell (i := 4) (by decide)
  have b0 : z2.cell? ⟨g13, 0, none⟩ = some (.string nm2) := R3.cell (i := 0) (by decide)
  have b1 : z2.cell? ⟨g13, 1, none⟩ = some (.int .i64 H) := R3.cell (i := 1) (by decide)
  have b2 : z2.cell? ⟨g13, 2, none⟩ = some (.int .i64 V) := R3.cell (i := 2) (by decide)
  have b3 : z2.cell? ⟨g13, 3, none⟩ = some (.int .i64 C2) := R3.cell (i := 3) (by decide)
  have b4 : z2.cell? ⟨g13, 4, none⟩ = some (.slice ua2 M2 uc2) := R3.cell (i := 4) (by decide)
  clear R5 R3
  go_wp2_with fail
  refine (CF.out _ (bl_step hb hb2)).mono ?_
  rintro e z3 ⟨rfl, hb3⟩
  clear a0 a1 a2 a3 a4 b0 b1 b2 b3 b4
  have HB3 := hid1 (bl_step BX (bl_step (bl_step hb hb2) hb3))
  go_wp2_with fail
  refine hQ.out _ _ _ _ _ _ _ _ _ _ _ _ _ _ _ _ _ _ _ _ _ _ _ _ _ _ ?_
  exact HB3.out
end Go.Proofs.Ytjjahenmhkkaaaa.Nn
/- NETWORKS THAT ARE MADE: the walk's pieces: a layer's outputs, its kind of weights, its norms. -/
namespace Go.Proofs.Ytjjahenmhkkaaaa.Nn
open Go.RowKit

noncomputable def cd14 : Code := (Try.f7.body.bind (fromP (isReg 14))).getD .skip
attribute [local go_sem ↓] Go.wp_at_zero Go.wp_at_succ
set_option maxHeartbeats 64000000 in
set_option maxRecDepth 100000 in
theorem md_kinds (u1 u2 u3 u4 u5 u6 u8 u10 u11 u12 u13 u14 u15 u16 u17 u18 u19 u20 u21 u22 u23 u24 u25 u26 u27 u28 u29 u30 u31 u32 u33 u34 u35 u36 u37 u38 u39 u40 u41 u42 u43 u44 u45 u46 u47 u48 u49 u50 u51 u52 u53 u54 u55 u56 u57 u58 u59 u60 u61 u62 u63 u64 u65 u66 u67 u68 u69 u70 u71 u72 u73 u74 u75 u76 u77 u78 u79 u80 u81 u82 u83 u84 u85 u86 u87 u88 u89 u90 u91 u92 u93 u94 u95 u96 u97 u98 u99 u100 u101 u102 u103 u104 u105 u106 u107 u108 u109 u110 u111 u112 u113 u114 u115 u116 u117 u118 u119 u120 u121 u122 u123 u124 u125 u126 u127 u128 u129 u130 u131 u132 u133 u134 u135 u136 u137 u138 u139 u140 u141 u142 u143 u144 u145 u146 u147 u148 u149 u150 u151 u152 u153 u154 u155 u156 u157 u158 u159 u160 u161 u162 u163 u164 u165 u166 u167 u168 u169 u170 u171 u172 u173 u174 u175 u176 u177 u178 u179 u180 u181 u182 u183 u184 u185 u186 u187 u188 u189 u190 u191 u192 u193 u194 u195 u196 u197 u198 u199 u200 u201 u202 u203 u204 u205 u206 u207 u208 u209 u210 u211 u212 u213 u214 : Value) (ao : Option Addr) (m cap : Nat) (f : Nat → Int) (hm : m ≤ 9223372036854775807) (w : World) (hf : RB w ao m f) (b g8 g9 : Nat) (p kd r s sy sx : Int) (wr wc : World) (Q : Exit → Act → World → Prop)
    (hpb : 0 ≤ p ∧ p ≤ 100) (wp5 : IntKind.i64.wrap (p + 5) = p + 5) (wp6 : IntKind.i64.wrap (p + 6) = p + 6) (HXW : Hid (Below w.heap.size w wr)) (bsz : b + 3 ≤ wr.heap.size) (HL9 : Hid (wc.rowIs g9 45 15 (lyf (L0 kd r s sy sx)))) (HW8 : Hid (wc.rowIs g8 40 8 (wnF r s sy sx))) (BR : Below wr.heap.size wr wc) (hg9' : wr.heap.size ≤ g9) (hg89 : g8 ≠ g9)
    (hQ : Hid (∀ (X : World) (s10 : Value) (v81 v82 v83 v84 v85 v86 v87 v88 v89 v90 v91 v92 v93 v94 v95 v96 v97 v98 v99 v100 : Value), (∃ (wt : Int) (K : Nat) (an : Option Addr) (cn : Nat) (ns : Nat → Nat → Int), s10 = .int .i64 (K : Int) ∧ Hid ((wt = 1 ∨ wt = 2) ∧ 1 ≤ K ∧ K ≤ 3 ∧ ∀ j, j < K → noE (ns j 0) (ns j 1) (ns j 2) (ns j 3) (ns j 4) (ns j 5) (ns j 6) (ns j 7) = 0) ∧ Hid (X.rowIs g9 45 15 (lyf (L1 kd wt K r s sy sx an cn ns))) ∧ Hid (X.ownsRow (b + 3) 71 8 (.slice an K cn) K (nmL ns K)) ∧ Hid (X.rowIs g8 40 8 (wnF r s sy sx)) ∧ Below wr.heap.size wr X) → Q .normal ⟨#[.slice ao m cap, u1, u2, u3, u4, u5, u6, .int .i64 p, u8, .pointer (some ⟨g9, 0, none⟩), s10, u11, u12, u13, u14, u15, u16, u17, u18, u19, u20, u21, u22, u23, u24, u25, u26, u27, u28, u29, u30, u31, u32, u33, u34, u35, u36, u37, u38, u39, u40, u41, u42, u43, u44, u45, u46, u47, u48, u49, u50, u51, u52, u53, u54, u55, u56, u57, u58, u59, u60, u61, u62, u63, u64, u65, u66, u67, u68, u69, u70, u71, u72, u73, u74, u75, u76, u77, u78, u79, u80, v81, v82, v83, v84, v85, v86, v87, v88, v89, v90, v91, v92, v93, v94, v95, v96, v97, v98, v99, v100, u101, u102, u103, u104, u105, u106, u107, u108, u109, u110, u111, u112, u113, u114, u115, u116, u117, u118, u119, u120, u121, u122, u123, u124, u125, u126, u127, u128, u129, u130, u131, u132, u133, u134, u135, u136, u137, u138, u139, u140, u141, u142, u143, u144, u145, u146, u147, u148, u149, u150, u151, u152, u153, u154, u155, u156, u157, u158, u159, u160, u161, u162, u163, u164, u165, u166, u167, u168, u169, u170, u171, u172, u173, u174, u175, u176, u177, u178, u179, u180, u181, u182, u183, u184, u185, u186, u187, u188, u189, u190, u191, u192, u193, u194, u195, u196, u197, u198, u199, u200, u201, u202, u203, u204, u205, u206, u207, u208, u209, u210, u211, u212, u213, u214], []⟩ X)) :
    Code.wp Try.prog cd14 Q ⟨#[.slice ao m cap, u1, u2, u3, u4, u5, u6, .int .i64 p, u8, .pointer (some ⟨g9, 0, none⟩), u10, u11, u12, u13, u14, u15, u16, u17, u18, u19, u20, u21, u22, u23, u24, u25, u26, u27, u28, u29, u30, u31, u32, u33, u34, u35, u36, u37, u38, u39, u40, u41, u42, u43, u44, u45, u46, u47, u48, u49, u50, u51, u52, u53, u54, u55, u56, u57, u58, u59, u60, u61, u62, u63, u64, u65, u66, u67, u68, u69, u70, u71, u72, u73, u74, u75, u76, u77, u78, u79, u80, u81, u82, u83, u84, u85, u86, u87, u88, u89, u90, u91, u92, u93, u94, u95, u96, u97, u98, u99, u100, u101, u102, u103, u104, u105, u106, u107, u108, u109, u110, u111, u112, u113, u114, u115, u116, u117, u118, u119, u120, u121, u122, u123, u124, u125, u126, u127, u128, u129, u130, u131, u132, u133, u134, u135, u136, u137, u138, u139, u140, u141, u142, u143, u144, u145, u146, u147, u148, u149, u150, u151, u152, u153, u154, u155, u156, u157, u158, u159, u160, u161, u162, u163, u164, u165, u166, u167, u168, u169, u170, u171, u172, u173, u174, u175, u176, u177, u178, u179, u180, u181, u182, u183, u184, u185, u186, u187, u188, u189, u190, u191, u192, u193, u194, u195, u196, u197, u198, u199, u200, u201, u202, u203, u204, u205, u206, u207, u208, u209, u210, u211, u212, u213, u214], []⟩ wc := by
  conv => arg 2; whnf
  have CP := hid1 (fun i n hi hn W (hW : Below w.heap.size w W) => pick5_any ao m cap f hm i n hi hn W (hf.keep hW))
  have CN := hid1 (fun N at' hN ha W (hW : Below w.heap.size w W) => norms5_any ao m cap f hm N at' hN ha W (hf.keep hW))
  have PB := hid1 (fun i {n : Int} (hn : 1 ≤ n) => pk5_in f m i hn)
  clear hf
  have C5 := hid1 (fun W hW => CP.out (p + 5) 3 (by omega) (by decide) W hW)
  have C6 := hid1 (fun W hW => CP.out (p + 6) 2 (by omega) (by decide) W hW)
  have h5 := PB.out (p + 5) (n := 3) (by decide)
  have h6 := PB.out (p + 6) (n := 2) (by decide)
  generalize pk5 f m (p + 5) 3 = y5 at *
  generalize pk5 f m (p + 6) 2 = y6 at *
  obtain ⟨K, hK⟩ := Int.eq_ofNat_of_zero_le (show 0 ≤ 1 + y5 by omega)
  have a5 : IntKind.i64.wrap (1 + y5) = (K : Int) := by rw [IntKind.wrap_i64]; omega
  obtain ⟨wt, hwt⟩ : ∃ wt, 1 + y6 = wt := ⟨_, rfl⟩
  have a6 : IntKind.i64.wrap (1 + y6) = wt := by rw [IntKind.wrap_i64]; omega
  have bK : 1 ≤ K ∧ K ≤ 3 := by omega
  have bwt : wt = 1 ∨ wt = 2 := by omega
  clear hK hwt h5 h6
  have fz2 := HL9.out.frozen 2
  have l2 : wc.cell? ⟨g9, 2, none⟩ = some (.int .i64 0) := HL9.out.cell (i := 2) (by decide)
  go_wp2_with fail
  refine (C5.out _ (bl_step HXW.out BR)).mono ?_
  rintro e z5 ⟨rfl, rfl⟩
  go_upto_region 16 with fail
  refine gen_world (fun X => X.rowIs g9 45 15 (lyf (LK kd 0 K r s sy sx)) ∧ X.rowIs g8 40 8 (wnF r s sy sx) ∧ Below wr.heap.size wr X) ⟨lyf_set HL9.out _ 2 _ ⟨rfl, rfl, rfl, rfl, rfl, rfl, rfl, rfl, rfl, rfl, rfl, rfl, rfl, rfl, rfl⟩, HW8.out.setOther hg89 _, bl_set BR hg9' _⟩ ?_
  rintro X ⟨RL, RW, BX⟩
  clear HL9 HW8 BR l2 fz2
  have HRW := hid1 RW
  have HRL := hid1 RL
  have fz1 := RL.frozen 1
  have l1 : X.cell? ⟨g9, 1, none⟩ = some (.int .i64 0) := RL.cell (i := 1) (by decide)
  clear RW RL
  go_wp2_with fail
  refine (C6.out _ (bl_step HXW.out BX)).mono ?_
  rintro e z6 ⟨rfl, rfl⟩
  go_upto_region 17 with fail
  refine gen_world (fun X => X.rowIs g9 45 15 (lyf (LK kd wt K r s sy sx)) ∧ X.rowIs g8 40 8 (wnF r s sy sx) ∧ Below wr.heap.size wr X) ⟨lyf_set HRL.out _ 1 _ ⟨rfl, rfl, rfl, rfl, rfl, rfl, rfl, rfl, rfl, rfl, rfl, rfl, rfl, rfl, rfl⟩, HRW.out.setOther hg89 _, bl_set BX hg9' _⟩ ?_
  clear HRL HRW BX l1 fz1
  rintro X ⟨RL, RW, BX⟩
  have HRW := hid1 RW
  have HRL := hid1 RL
  have l2 : X.cell? ⟨g9, 2, none⟩ = some (.int .i64 K) := RL.cell (i := 2) (by decide)
  have hXb : b + 3 ≤ X.heap.size := Nat.le_trans bsz BX.size
  clear RW RL
  go_wp2_with fail
  refine (CN.out K p (by omega) (by omega) _ (bl_step HXW.out BX)).mono ?_
  rintro e z7 ⟨vn, rfl, own, hb⟩
  obtain ⟨an, cn, rfl⟩ := own_isP own
  have HON := hid1 (own.mono (Nat.le_trans bsz BX.size))
  replace HRL := hid1 (World.rowIs.of_block HRL.out (hb.block _ HRL.out.lt))
  replace HRW := hid1 (World.rowIs.of_block HRW.out (hb.block _ HRW.out.lt))
  replace BX := bl_step BX hb
  clear own hb l2
  have fz13 := HRL.out.frozen 13
  have l13 : z7.cell? ⟨g9, 13, none⟩ = some (.slice none 0 0) := HRL.out.cell (i := 13) (by decide)
  go_wp2_with fail
  refine hQ.out _ _ _ _ _ _ _ _ _ _ _ _ _ _ _ _ _ _ _ _ _ _ ?_
  exact ⟨wt, K, an, cn, nsV f m p, rfl, hid1 ⟨bwt, bK.1, bK.2, fun j hj => nsV_ok f m p j (by omega)⟩, hid1 (lyf_set HRL.out _ 13 _ ⟨rfl, rfl, rfl, rfl, rfl, rfl, rfl, rfl, rfl, rfl, rfl, rfl, rfl, rfl, rfl⟩), hid1 (own_setHi HON.out HRL.out.lt HRL.out (by decide)), hid1 (HRW.out.setOther hg89 _), bl_set BX hg9' _⟩
end Go.Proofs.Ytjjahenmhkkaaaa.Nn
/- NETWORKS THAT ARE MADE: the walk's pieces: the window's borders and the weights of a convolution. -/
namespace Go.Proofs.Ytjjahenmhkkaaaa.Nn
open Go.RowKit

noncomputable def cdB2 : Code := (Try.f7.body.bind (blockOf 2)).getD .skip
attribute [local go_sem ↓] Go.wp_at_zero Go.wp_at_succ
set_option maxHeartbeats 64000000 in
set_option maxRecDepth 100000 in
theorem md_sw1 (u1 u2 u3 u5 u6 u10 u11 u12 u13 u14 u15 u16 u17 u18 u19 u20 u21 u22 u23 u24 u25 u26 u27 u28 u29 u30 u31 u32 u33 u34 u35 u36 u37 u38 u39 u40 u41 u42 u43 u44 u45 u46 u47 u48 u49 u50 u51 u52 u53 u54 u55 u56 u57 u58 u59 u60 u61 u62 u63 u64 u65 u66 u67 u68 u69 u70 u71 u72 u73 u74 u75 u76 u77 u78 u79 u80 u81 u82 u83 u84 u85 u86 u87 u88 u89 u90 u91 u92 u93 u94 u95 u96 u97 u98 u99 u100 u101 u103 u104 u105 u106 u107 u108 u109 u110 u111 u112 u113 u114 u115 u116 u117 u118 u119 u120 u121 u122 u123 u124 u125 u126 u127 u128 u129 u130 u131 u132 u133 u134 u135 u136 u137 u138 u139 u140 u141 u142 u143 u144 u145 u146 u147 u148 u149 u150 u151 u152 u153 u154 u155 u156 u157 u158 u159 u160 u161 u162 u163 u164 u165 u166 u167 u168 u169 u170 u171 u172 u173 u174 u175 u176 u177 u178 u179 u180 u181 u182 u183 u184 u185 u186 u187 u188 u189 u190 u191 u192 u193 u194 u195 u196 u197 u198 u199 u200 u201 u202 u203 u204 u205 u206 u207 u208 u209 u210 u211 u212 u213 u214 : Value) (ao : Option Addr) (m cap : Nat) (f : Nat → Int) (hm : m ≤ 9223372036854775807) (w : World) (hf : RB w ao m f) (b g8 g9 K cn i uc : Nat) (ua an : Option Addr) (ns : Nat → Nat → Int) (lf : Nat → Ly) (p kd wt r s sy sx h v c c' ah H V C : Int) (fs la : Bool) (wr wc : World) (Q : Exit → Act → World → Prop)
    (hpb : 0 ≤ p ∧ p ≤ 100) (wp6 : IntKind.i64.wrap (p + 6) = p + 6) (wp7 : IntKind.i64.wrap (p + 7) = p + 7) (HXW : Hid (Below w.heap.size w wr)) (bsz : b + 3 ≤ wr.heap.size) (HMS : Hid (MS wr b H V C h v c lf i ua uc)) (HSM : Hid (SmS ⟨h, v, c, ah, fs, la⟩)) (HLA : Hid (la = false ∧ fs = decide (i = 0))) (sm1 : 1 ≤ h ∧ h ≤ 15) (sm2 : 1 ≤ v ∧ v ≤ 15) (sm3 : 1 ≤ c ∧ c ≤ 4) (br : 1 ≤ r ∧ r ≤ h) (bs : 1 ≤ s ∧ s ≤ v) (bsy : 1 ≤ sy ∧ sy ≤ 3) (bsx : 1 ≤ sx ∧ sx ≤ 3) (HL9 : Hid (wc.rowIs g9 45 15 (lyf (L1 kd wt K r s sy sx an cn ns)))) (HON : Hid (wc.ownsRow (b + 3) 71 8 (.slice an K cn) K (nmL ns K))) (HW8 : Hid (wc.rowIs g8 40 8 (wnF r s sy sx))) (BR : Below wr.heap.size wr wc) (hg9' : wr.heap.size ≤ g9) (hg89 : g8 ≠ g9) (HKD : Hid ((wt = 1 ∨ wt = 2) ∧ 1 ≤ K ∧ K ≤ 3 ∧ c' = (K : Int) ∧ ∀ j, j < K → noE (ns j 0) (ns j 1) (ns j 2) (ns j 3) (ns j 4) (ns j 5) (ns j 6) (ns j 7) = 0)) (h1 : kd = 1)
    (hQ : Hid (∀ (X : World) (v103 v104 v105 v106 v107 v108 v109 v110 v111 v112 v113 v114 v115 v116 v117 v118 v119 v120 v121 v122 v123 v124 v125 v126 v127 v128 v129 v130 v131 v132 v133 v134 v135 v136 v137 v138 v139 v140 v141 v142 v143 v144 v145 v146 v147 v148 v149 v150 v151 v152 v153 v154 v155 v156 v157 v158 v159 v160 v161 v162 v163 v164 v165 v166 : Value), (∃ L, Ld L ⟨h, v, c, ah, fs, la⟩ c' ∧ X.rowIs g9 45 15 (lyf L) ∧ Lo X (b + 3) L ∧ Below wr.heap.size wr X) → Q .normal ⟨#[.slice ao m cap, u1, u2, u3, .pointer (some ⟨b + 1 + 1, 0, none⟩), u5, u6, .int .i64 p, .pointer (some ⟨g8, 0, none⟩), .pointer (some ⟨g9, 0, none⟩), u10, u11, u12, u13, u14, u15, u16, u17, u18, u19, u20, u21, u22, u23, u24, u25, u26, u27, u28, u29, u30, u31, u32, u33, u34, u35, u36, u37, u38, u39, u40, u41, u42, u43, u44, u45, u46, u47, u48, u49, u50, u51, u52, u53, u54, u55, u56, u57, u58, u59, u60, u61, u62, u63, u64, u65, u66, u67, u68, u69, u70, u71, u72, u73, u74, u75, u76, u77, u78, u79, u80, u81, u82, u83, u84, u85, u86, u87, u88, u89, u90, u91, u92, u93, u94, u95, u96, u97, u98, u99, u100, u101, .int .i64 kd, v103, v104, v105, v106, v107, v108, v109, v110, v111, v112, v113, v114, v115, v116, v117, v118, v119, v120, v121, v122, v123, v124, v125, v126, v127, v128, v129, v130, v131, v132, v133, v134, v135, v136, v137, v138, v139, v140, v141, v142, v143, v144, v145, v146, v147, v148, v149, v150, v151, v152, v153, v154, v155, v156, v157, v158, v159, v160, v161, v162, v163, v164, v165, v166, u167, u168, u169, u170, u171, u172, u173, u174, u175, u176, u177, u178, u179, u180, u181, u182, u183, u184, u185, u186, u187, u188, u189, u190, u191, u192, u193, u194, u195, u196, u197, u198, u199, u200, u201, u202, u203, u204, u205, u206, u207, u208, u209, u210, u211, u212, u213, u214], []⟩ X)) :
    Code.wp Try.prog cdB2 Q ⟨#[.slice ao m cap, u1, u2, u3, .pointer (some ⟨b + 1 + 1, 0, none⟩), u5, u6, .int .i64 p, .pointer (some ⟨g8, 0, none⟩), .pointer (some ⟨g9, 0, none⟩), u10, u11, u12, u13, u14, u15, u16, u17, u18, u19, u20, u21, u22, u23, u24, u25, u26, u27, u28, u29, u30, u31, u32, u33, u34, u35, u36, u37, u38, u39, u40, u41, u42, u43, u44, u45, u46, u47, u48, u49, u50, u51, u52, u53, u54, u55, u56, u57, u58, u59, u60, u61, u62, u63, u64, u65, u66, u67, u68, u69, u70, u71, u72, u73, u74, u75, u76, u77, u78, u79, u80, u81, u82, u83, u84, u85, u86, u87, u88, u89, u90, u91, u92, u93, u94, u95, u96, u97, u98, u99, u100, u101, .int .i64 kd, u103, u104, u105, u106, u107, u108, u109, u110, u111, u112, u113, u114, u115, u116, u117, u118, u119, u120, u121, u122, u123, u124, u125, u126, u127, u128, u129, u130, u131, u132, u133, u134, u135, u136, u137, u138, u139, u140, u141, u142, u143, u144, u145, u146, u147, u148, u149, u150, u151, u152, u153, u154, u155, u156, u157, u158, u159, u160, u161, u162, u163, u164, u165, u166, u167, u168, u169, u170, u171, u172, u173, u174, u175, u176, u177, u178, u179, u180, u181, u182, u183, u184, u185, u186, u187, u188, u189, u190, u191, u192, u193, u194, u195, u196, u197, u198, u199, u200, u201, u202, u203, u204, u205, u206, u207, u208, u209, u210, u211, u212, u213, u214], []⟩ wc := by
  conv => arg 2; whnf
  have CP := hid1 (fun i n hi hn W (hW : Below w.heap.size w W) => pick5_any ao m cap f hm i n hi hn W (hf.keep hW))
  have CW := hid1 (fun N kd hN W (hW : Below w.heap.size w W) => weights5_any ao m cap f hm N kd hN W (hf.keep hW))
  have PB := hid1 (fun i {n : Int} (hn : 1 ≤ n) => pk5_in f m i hn)
  clear hf
  obtain ⟨bwt, k1, k2, ec', hns⟩ := HKD.out
  have EC := hid1 ec'
  clear ec'
  have HNS := hid1 hns
  clear hns HKD
  have e1 : (kd == 1) = true := by rw [h1]; rfl
  have H1 := hid1 h1
  clear h1
  have C5 := hid1 (fun W hW => CP.out (p + 5) 3 (by omega) (by decide) W hW)
  have C6 := hid1 (fun W hW => CP.out (p + 6) 2 (by omega) (by decide) W hW)
  have C7 := hid1 (fun W hW => CP.out (p + 7) 3 (by omega) (by decide) W hW)
  have h5 := PB.out (p + 5) (n := 3) (by decide)
  have h6 := PB.out (p + 6) (n := 2) (by decide)
  have h7 := PB.out (p + 7) (n := 3) (by decide)
  generalize pk5 f m (p + 5) 3 = y5 at *
  generalize pk5 f m (p + 6) 2 = y6 at *
  generalize pk5 f m (p + 7) 3 = y7 at *
  have wp5 : IntKind.i64.wrap (p + 5) = p + 5 := by rw [IntKind.wrap_i64]; omega
  have fz7 := HL9.out.frozen 7
  have l7 : wc.cell? ⟨g9, 7, none⟩ = some (.int .i64 0) := HL9.out.cell (i := 7) (by decide)
  go_wp2_with fail
  refine (C7.out _ (bl_step HXW.out BR)).mono ?_
  rintro e z7 ⟨rfl, rfl⟩
  go_upto_region 21 with fail
  refine gen_world (fun X => X.rowIs g9 45 15 (lyf (LV kd wt K r s sy sx y7 0 0 none 0 0 an cn (fun _ => 0) ns)) ∧ X.rowIs g8 40 8 (wnF r s sy sx) ∧ X.ownsRow (b + 3) 71 8 (.slice an K cn) K (nmL ns K) ∧ Below wr.heap.size wr X) ⟨lyf_set HL9.out _ 7 _ ⟨rfl, rfl, rfl, rfl, rfl, rfl, rfl, rfl, rfl, rfl, rfl, rfl, rfl, rfl, rfl⟩, HW8.out.setOther hg89 _, own_setHi HON.out HL9.out.lt HL9.out (by decide), bl_set BR hg9' _⟩ ?_
  clear HL9 HW8 HON BR fz7 l7
  rintro X ⟨RL, RW, RN, BX⟩
  have HRL := hid1 RL
  have HRW := hid1 RW
  have HRN := hid1 RN
  have fz10 := RL.frozen 10
  have l10 : X.cell? ⟨g9, 10, none⟩ = some (.int .i64 0) := RL.cell (i := 10) (by decide)
  clear RL RW RN
  go_wp2_with fail
  refine (C6.out _ (bl_step HXW.out BX)).mono ?_
  rintro e z6 ⟨rfl, rfl⟩
  go_upto_region 22 with fail
  refine gen_world (fun X => X.rowIs g9 45 15 (lyf (LV kd wt K r s sy sx y7 y6 0 none 0 0 an cn (fun _ => 0) ns)) ∧ X.rowIs g8 40 8 (wnF r s sy sx) ∧ X.ownsRow (b + 3) 71 8 (.slice an K cn) K (nmL ns K) ∧ Below wr.heap.size wr X) ⟨lyf_set HRL.out _ 10 _ ⟨rfl, rfl, rfl, rfl, rfl, rfl, rfl, rfl, rfl, rfl, rfl, rfl, rfl, rfl, rfl⟩, HRW.out.setOther hg89 _, own_setHi HRN.out HRL.out.lt HRL.out (by decide), bl_set BX hg9' _⟩ ?_
  clear HRL HRW HRN BX fz10 l10
  rintro X ⟨RL, RW, RN, BX⟩
  have HRL := hid1 RL
  have HRW := hid1 RW
  have HRN := hid1 RN
  have fz11 := RL.frozen 11
  have l7 : X.cell? ⟨g9, 7, none⟩ = some (.int .i64 y7) := RL.cell (i := 7) (by decide)
  have l10 : X.cell? ⟨g9, 10, none⟩ = some (.int .i64 y6) := RL.cell (i := 10) (by decide)
  have l11 : X.cell? ⟨g9, 11, none⟩ = some (.int .i64 0) := RL.cell (i := 11) (by decide)
  clear RL RW RN
  have a8 : IntKind.i64.wrap (y7 + y6) = y7 + y6 := by rw [IntKind.wrap_i64]; omega
  have a9 : IntKind.i64.wrap (y5 - 1) = y5 - 1 := by rw [IntKind.wrap_i64]; omega
  obtain ⟨tb, htb⟩ : ∃ tb, decide (0 < y7 + y6) = tb := ⟨_, rfl⟩
  have HTB := hid1 htb
  go_upto_if 124 with fail
  go_cut [] from 125 to 130 (fun wx => ∃ bd, Hid (bd = 0 ∨ (1 ≤ y7 + y6 ∧ -1 ≤ bd ∧ bd ≤ 1)) ∧ Hid (wx.rowIs g9 45 15 (lyf (LV kd wt K r s sy sx y7 y6 bd none 0 0 an cn (fun _ => 0) ns))) ∧ Hid (wx.rowIs g8 40 8 (wnF r s sy sx)) ∧ Hid (wx.ownsRow (b + 3) 71 8 (.slice an K cn) K (nmL ns K)) ∧ Below wr.heap.size wr wx)
  case first =>
    cases tb
    · go_wp2_with fail
      go_meet
      exact ⟨0, hid1 (.inl rfl), HRL, HRW, HRN, BX⟩
    · have hpos : 0 < y7 + y6 := by have := HTB.out; simpa using this
      have HPO := hid1 hpos
      clear hpos
      go_wp2_with fail
      refine (C5.out _ (bl_step HXW.out BX)).mono ?_
      rintro e z5 ⟨rfl, rfl⟩
      go_wp2_with fail
      go_meet
      exact ⟨y5 - 1, hid1 (.inr ⟨by have := HPO.out; omega, by omega, by omega⟩), hid1 (lyf_set HRL.out _ 11 _ ⟨rfl, rfl, rfl, rfl, rfl, rfl, rfl, rfl, rfl, rfl, rfl, rfl, rfl, rfl, rfl⟩), hid1 (HRW.out.setOther hg89 _), hid1 (own_setHi HRN.out HRL.out.lt HRL.out (by decide)), bl_set BX hg9' _⟩
  case rest =>
    clear HRL HRW HRN BX HTB htb fz11 l7 l10 l11 a8 a9 C5 C6 C7
    obtain ⟨bd, HBD, HRL, HRW, HRN, BX⟩ := hcut
    have l1 : wc.cell? ⟨g9, 1, none⟩ = some (.int .i64 wt) := HRL.out.cell (i := 1) (by decide)
    have l2 : wc.cell? ⟨g9, 2, none⟩ = some (.int .i64 K) := HRL.out.cell (i := 2) (by decide)
    have q0 : wc.cell? ⟨g8, 0, none⟩ = some (.int .i64 r) := HRW.out.cell (i := 0) (by decide)
    have q1 : wc.cell? ⟨g8, 1, none⟩ = some (.int .i64 s) := HRW.out.cell (i := 1) (by decide)
    have s2 : wc.cell? ⟨b + 1 + 1, 2, none⟩ = some (.int .i64 c) := (HMS.out.keep BX).2.2.1.cell (i := 2) (by decide)
    have m1 := mul3_le (a := K) (b := r) (c := 1) (A := 3) (B := 15) (C := 1) (by omega) (by omega) (by omega)
    have m2 := mul3_le (a := K) (b := r) (c := s) (A := 3) (B := 15) (C := 15) (by omega) (by omega) (by omega)
    have m3 := mul3_le (a := (K : Int) * r) (b := s) (c := c) (A := 45) (B := 15) (C := 4) (by omega) (by omega) (by omega)
    obtain ⟨N, hN⟩ := Int.eq_ofNat_of_zero_le m3.1
    have HNE : Hid ((N : Int) = K * (r * s * c)) := hid1 (by rw [← hN, Int.mul_assoc, Int.mul_assoc, Int.mul_assoc])
    have p1 : IntKind.i64.wrap ((K : Int) * r) = K * r := by rw [IntKind.wrap_i64]; omega
    have p2 : IntKind.i64.wrap ((K : Int) * r * s) = K * r * s := by rw [IntKind.wrap_i64]; omega
    have p3 : IntKind.i64.wrap ((K : Int) * r * s * c) = N := by rw [IntKind.wrap_i64, hN]; omega
    have hNb : N ≤ 10000 := by omega
    clear m1 m2 m3 hN
    go_wp2_with fail
    refine (CW.out N wt (by omega) _ (bl_step HXW.out BX)).mono ?_
    rintro e z8 ⟨vw, rfl, own, hb⟩
    obtain ⟨aw, cw, rfl⟩ := own_isP own
    have HOW := hid1 (own.mono (Nat.le_trans bsz BX.size))
    replace HRL := hid1 (World.rowIs.of_block HRL.out (hb.block _ HRL.out.lt))
    replace HRN := hid1 (own_bl HRN.out hb)
    replace BX := bl_step BX hb
    clear own hb l1 l2 q0 q1 s2
    have fz12 := HRL.out.frozen 12
    have l12 : z8.cell? ⟨g9, 12, none⟩ = some (.slice none 0 0) := HRL.out.cell (i := 12) (by decide)
    go_wp2_with fail
    refine hQ.out _ _ _ _ _ _ _ _ _ _ _ _ _ _ _ _ _ _ _ _ _ _ _ _ _ _ _ _ _ _ _ _ _ _ _ _ _ _ _ _ _ _ _ _ _ _ _ _ _ _ _ _ _ _ _ _ _ _ _ _ _ _ _ _ _ ?_
    have h1 := H1.out
    refine ⟨LV kd wt K r s sy sx y7 y6 bd aw N cw an cn (wgV f m wt) ns, ?_, lyf_set HRL.out _ 12 _ ⟨rfl, rfl, rfl, rfl, rfl, rfl, rfl, rfl, rfl, rfl, rfl, rfl, rfl, rfl, rfl⟩, ⟨own_setHi HOW.out HRL.out.lt HRL.out (by decide), own_setHi HRN.out HRL.out.lt HRL.out (by decide), World.ownsRow_nil _ _ _ _⟩, bl_set BX hg9' _⟩
    refine ⟨made_conv HSM.out HLA.out.1 h1 bwt (by show 1 ≤ (K : Int) ∧ (K : Int) ≤ 3; omega) br bs bsy bsx (by show 0 ≤ y7 ∧ y7 ≤ 2; omega) rfl rfl (by show 0 ≤ y6 ∧ y6 ≤ 1; omega) HBD.out ⟨HNE.out, fun j _ => wgV_ok f m wt j⟩ ⟨rfl, rfl, fun j hj => HNS.out j hj⟩, own_cap HOW.out, (by show 0 ≤ (K : Int) ∧ (K : Int) ≤ 3; omega), .inr ⟨br, bs, bsy, bsx, by show 0 ≤ y7 ∧ y7 ≤ 2; omega, rfl, rfl, by show 0 ≤ y6 ∧ y6 ≤ 1; omega⟩, ?_, (by show N ≤ 1000000; omega), (by show K ≤ 1000000; omega), (by show 0 ≤ 1000000; omega)⟩
    rw [EC.out, if_neg (by show ¬ kd = 3; omega)]
end Go.Proofs.Ytjjahenmhkkaaaa.Nn
