/- CACHE: keys in memory of their own. -/
import Derived.Test.YtpjcpikafpnmpaaAK15
import Derived.Lib.ConvBytes
namespace Go.Proofs.Ytpjcpikafpnmpaa
open Go.RowKit

/-- A key's bytes in a block of their own (a conversion's: marked behind its last cell). -/
def Kb (w : World) (M : Nat) (v : Value) (s : ByteArray) : Prop := ∃ g cap C, v = .slice (some ⟨g, 0, none⟩) s.size cap ∧ M ≤ g ∧ w.heap[g]? = some (.cells C 5 (cap, cap + 1)) ∧ C.size = cap ∧ s.size ≤ cap ∧ ∀ j, (hj : j < s.size) → C[j]? = some (.int .u8 (s[j].toNat : Int))
theorem Kb.block {w w' : World} {M : Nat} {v : Value} {s : ByteArray} (h : Kb w M v s) (hk : ∀ b, v.ownBlock = some b → w'.heap[b]? = w.heap[b]?) : Kb w' M v s := by
  obtain ⟨g, cap, C, rfl, h1, h2, h3⟩ := h
  exact ⟨g, cap, C, rfl, h1, (hk g rfl).trans h2, h3⟩
theorem Kb.lt {w : World} {M : Nat} {v : Value} {s : ByteArray} (h : Kb w M v s) : ∀ b, v.ownBlock = some b → M ≤ b ∧ b < w.heap.size := fun b hb => by
  obtain ⟨g, cap, C, rfl, h1, h2, _⟩ := h
  injection hb with hb; subst hb
  exact ⟨h1, (Array.getElem?_eq_some_iff.1 h2).1⟩
theorem Kb.bs {w : World} {M : Nat} {v : Value} {s : ByteArray} (h : Kb w M v s) : ∃ g cap, v = .slice (some ⟨g, 0, none⟩) s.size cap ∧ Bs w (some ⟨g, 0, none⟩) s := by
  obtain ⟨g, cap, C, rfl, h1, h2, h3, h4, h5⟩ := h
  refine ⟨g, cap, rfl, .inr ⟨g, 0, rfl, fun i hi => ?_⟩⟩
  simp [World.cell?, h2, h5 i hi]
/-- '[]byte(key)': what it makes, in every world. -/
theorem conv_bytes (s : ByteArray) : ∃ (cp : World → Nat) (bw : World → World), (∀ W, (convert 9 28 (.string s)).run Try.prog W = .ok (.slice (some ⟨W.heap.size, 0, none⟩) s.size (cp W)) (bw W)) ∧
    ∀ W, Below W.heap.size W (bw W) ∧ (bw W).heap.size = W.heap.size + 1 ∧ Kb (bw W) W.heap.size (.slice (some ⟨W.heap.size, 0, none⟩) s.size (cp W)) s := by
  refine ⟨fun W => grownCap W s.size 0 5, fun W => Lib.bytesWorld W 5 s, fun W => Lib.run_convert_string_bytes W _ _ _ s und_str und_bytes und_u8, fun W => ⟨⟨rfl, rfl, rfl, ?_, fun k hk => Lib.bytesWorld_at_old W _ s k hk⟩, Lib.bytesWorld_size W _ s, ?_⟩⟩
  · rw [Lib.bytesWorld_size]; omega
  · have hcap : s.size ≤ grownCap W s.size 0 5 := grownCap_ge W s.size 0 _
    have hsz : (Lib.bytesCells W 5 s).size = grownCap W s.size 0 5 := by
      unfold Lib.bytesCells
      simp
      show s.data.size + (_ - s.size) = _
      have : s.data.size = s.size := rfl
      omega
    refine ⟨_, _, Lib.bytesCells W 5 s, rfl, Nat.le_refl _, ?_, hsz, hcap, fun j hj => ?_⟩
    · rw [Lib.bytesWorld_at_new, hsz]
    · have := Lib.bytesWorld_cell W 5 s j hj
      simp only [World.cell?, Lib.bytesWorld_at_new] at this
      have e : s.data.toList.getD j 0 = s[j] := by
        rw [List.getD_eq_getElem?_getD, List.getElem?_eq_getElem (show j < s.data.toList.length by simpa using hj)]
        rfl
      rw [e] at this
      simpa using this
theorem info_bytes : (Try.prog.info? 28).map (fun i => (i.zero, i.size, i.bytes)) = some (some (.slice none 0 0), 1, 24) := by kernel_rfl
theorem und_bytess : Try.prog.underlying 38 = some (.slice 28) := Try.underlying38
/-- A list of keys, each in memory of its own. -/
structure Kl (w : World) (M : Nat) (v : Value) (ks : List ByteArray) (ss : List Value) : Prop where
  len : ss.length = ks.length
  out : w.ownsRow M 28 1 v ks.length ss
  key : ∀ (i : Nat) k s, ks[i]? = some k → ss[i]? = some s → Kb w M s k
  apart : ∀ (i j : Nat) a b, i < j → ss[i]? = some a → ss[j]? = some b → a.ownBlock ≠ b.ownBlock
theorem own_u8 {w : World} {M n : Nat} {v : Value} {xs : List Value} (h : w.ownsRow M 28 1 v n xs) : ∀ b, v.ownBlock = some b → M ≤ b ∧ b < w.heap.size ∧ ∃ C, w.heap[b]? = some (.cells C 28 (0, 0)) := fun b hb => by
  rcases h.2 with ⟨rfl, _⟩ | ⟨g, cap, cur, rfl, h1, h2, _⟩
  · cases hb
  · injection hb with hb; subst hb
    exact ⟨h1, (Array.getElem?_eq_some_iff.1 h2).1, cur, h2⟩
theorem Kb.kind {w : World} {M : Nat} {v : Value} {s : ByteArray} (h : Kb w M v s) : ∃ g, v.ownBlock = some g ∧ ∃ C c, w.heap[g]? = some (.cells C 5 c) := by
  obtain ⟨g, cap, C, rfl, h1, h2, _⟩ := h
  exact ⟨g, rfl, C, _, h2⟩
/-- What keeps the list's block and its keys' blocks keeps the list. -/
theorem Kl.block {w w' : World} {M : Nat} {v : Value} {ks : List ByteArray} {ss : List Value} (h : Kl w M v ks ss) (hk : ∀ b, M ≤ b → b < w.heap.size → (∃ C c t, w.heap[b]? = some (.cells C t c) ∧ (t = 5 ∨ t = 28)) → w'.heap[b]? = w.heap[b]?) : Kl w' M v ks ss := by
  refine ⟨h.len, ⟨h.out.1, ?_⟩, fun i k s a b => (h.key i k s a b).block fun g hg => ?_, h.apart⟩
  · rcases h.out.2 with h0 | ⟨g, cap, cur, rfl, h1, h2, h3⟩
    · exact .inl h0
    · exact .inr ⟨g, cap, cur, rfl, h1, (hk g h1 (Array.getElem?_eq_some_iff.1 h2).1 ⟨cur, _, _, h2, .inr rfl⟩).trans h2, h3⟩
  · have hk' := h.key i k s a b
    obtain ⟨g', e, C, c, e2⟩ := hk'.kind
    rw [hg] at e; injection e with e; subst e
    exact hk g (hk'.lt g hg).1 (hk'.lt g hg).2 ⟨C, c, _, e2, .inl rfl⟩
theorem Kl.below {w w' : World} {M : Nat} {v : Value} {ks : List ByteArray} {ss : List Value} (h : Kl w M v ks ss) (hb : Below w.heap.size w w') : Kl w' M v ks ss := h.block fun b _ hl _ => hb.block b hl
/-- The append itself, in a drawn region. -/
theorem step_appK {ops : Array Oper} {o : Oper} {a : Act} {w : World} {K : Act → World → Prop} {Q : Exit → Act → World → Prop} {E : Prop}
    (hg : o.guard = none) (s x : Operand) (hop : o.op = Op.call { callee := Callee.builtin Builtin.append, args := #[s, x], argTypes := #[38, 38] })
    (M : Nat) (v : Value) (ks : List ByteArray) (ss : List Value) (hs : a.eval s = v) (hown : Kl w M v ks ss)
    (y : Value) (k : ByteArray) (hy : Kb w M y k) (hne : ∀ u ∈ ss, u.ownBlock ≠ y.ownBlock) (ad : Addr) (hx : a.eval x = .slice (some ad) 1 1) (hc : w.cell? ad = some y) (hM : ks.length ≤ 16777216) (hb : M ≤ w.heap.size)
    (hK : ∀ v' w', Kl w' M v' (ks ++ [k]) (ss ++ [y]) → w.grownBy w' v.ownBlock → K (a.put o.dst v') w') :
    if Region.wanted o (yielded ops a.tmps) = true then Oper.wp Try.prog o a w K Q else E := by
  have hw : Region.wanted o (yielded ops a.tmps) = true := by simp [Region.wanted, hg]
  rw [if_pos hw]
  obtain ⟨i0, hi, hz0, hz1, hz2⟩ := info_parts info_bytes
  obtain ⟨g, cap, C, ey, _⟩ := id hy
  obtain ⟨v', w', hr, k2, k3, k4, k5⟩ := run_append_own_at (P := Try.prog) w M 38 o.type 28 i0 (.slice none 0 0) 1 24 und_bytess hi hz0 hz1 hz2 rfl (by decide) v ks.length ss hown.out ad 1 1 [y] rfl
    (fun j u hu => by
      rcases j with _ | j
      · simp at hu; subst hu; simpa [Addr.add] using hc
      · simp at hu) (fun u hu => by simp at hu; subst hu; rw [ey]; rfl) (by unfold maxLen; omega) (by omega) hb
  unfold Oper.wp execOp
  simp only [hop, resolve, invoke, builtin, Sem.run_bind, Sem.run_pure, Result.andThen_ok, List.map_toArray, List.map_cons, List.map_nil, hs, hx, hr]
  have hkb : ∀ {u : Value} {q : ByteArray}, Kb w M u q → Kb w' M u q := fun {u q} h => h.block fun b hb => k3.block b (h.lt b hb).2 fun e => by
    obtain ⟨_, _, C1, e1⟩ := own_u8 hown.out b e.symm
    obtain ⟨g', e2, C2, c2, e3⟩ := h.kind
    rw [hb] at e2; injection e2 with e2; subst e2
    rw [e1] at e3
    injection e3 with e3
    injection e3 with _ e3 _
    exact absurd e3 (by decide)
  refine hK _ _ ⟨by simp [hown.len], by rw [List.length_append]; exact k2, fun i q z a b => ?_, fun i j a b hij ha hb => ?_⟩ k3
  · by_cases hi : i < ks.length
    · rw [List.getElem?_append_left hi] at a
      rw [List.getElem?_append_left (by rw [hown.len]; exact hi)] at b
      exact hkb (hown.key i q z a b)
    · rw [List.getElem?_append_right (by omega)] at a
      rw [List.getElem?_append_right (by rw [hown.len]; omega), hown.len] at b
      cases hd : i - ks.length with
      | zero =>
        rw [hd] at a b
        simp at a b
        subst a; subst b
        exact hkb hy
      | succ n => rw [hd] at a; simp at a
  · have hj : j ≤ ss.length := by
      rcases Nat.lt_or_ge ss.length j with h | h
      · rw [List.getElem?_eq_none (by simp; omega)] at hb; cases hb
      · exact h
    rw [List.getElem?_append_left (by omega)] at ha
    rcases Nat.lt_or_ge j ss.length with h | h
    · rw [List.getElem?_append_left h] at hb
      exact hown.apart i j a b hij ha hb
    · obtain rfl : j = ss.length := by omega
      simp at hb
      subst hb
      exact hne a (List.mem_of_getElem? ha)
end Go.Proofs.Ytpjcpikafpnmpaa
