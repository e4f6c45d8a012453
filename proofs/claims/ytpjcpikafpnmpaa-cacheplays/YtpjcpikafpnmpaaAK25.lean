/- A cache of the law's own, its blocks unnamed: what lies in F is none of its own. -/
import Derived.Test.YtpjcpikafpnmpaaAK24
namespace Go.Proofs.Ytpjcpikafpnmpaa
open Go.RowKit

structure Fk (F : Nat → Prop) (w w' : World) : Prop where
  size : w.heap.size ≤ w'.heap.size
  keep : ∀ k, F k → k < w.heap.size → w'.heap[k]? = w.heap[k]?
theorem Fk.refl (F : Nat → Prop) (w : World) : Fk F w w := ⟨Nat.le_refl _, fun _ _ _ => rfl⟩
theorem Fk.of {F S : Nat → Prop} {w w' : World} (b : BP S w w') (h : ∀ k, F k → ¬ S k) : Fk F w w' := ⟨b.size, fun k hk hl => b.block k hl (h k hk)⟩
theorem Fk.row {F : Nat → Prop} {w w' : World} (h : Fk F w w') {b n : Nat} {t : TypeId} {f : Nat → Value} (r : w.rowIs b t n f) (hb : F b) : w'.rowIs b t n f := by
  have e := h.keep b hb r.lt
  obtain ⟨c, h1, h2, h3⟩ := r
  exact ⟨c, e.trans h1, h2, h3⟩
theorem Fk.bs {F : Nat → Prop} {w w' : World} (h : Fk F w w') {ao : Option Addr} {s : ByteArray} (hs : Bs w ao s) (hF : s.size = 0 ∨ ∀ a, ao = some a → F a.block) : Bs w' ao s := by
  rcases hF with h0 | hF
  · exact .inl h0
  rcases hs.lt with h0 | hl
  · exact .inl h0
  · exact hs.block fun g o e => h.keep g (hF _ e) (hl _ e)
theorem Fk.trans {F : Nat → Prop} {w w' w'' : World} (h : Fk F w w') (h' : Fk F w' w'') : Fk F w w'' := ⟨Nat.le_trans h.size h'.size, fun k hk hl => (h'.keep k hk (Nat.lt_of_lt_of_le hl h.size)).trans (h.keep k hk hl)⟩
theorem Fk.below {F : Nat → Prop} {w w' : World} (h : Below w.heap.size w w') : Fk F w w' := ⟨h.size, fun k _ hl => h.block k hl⟩
/-- The cache: its entries are E. -/
def Cf (w0 w : World) (F : Nat → Prop) (p : Nat) (rm : Int) (bm : Nat) (h m : Int) (E : List En) : Prop :=
  ∃ S L, ct L = E ∧ Cw w0 w S p rm bm h m L ∧ ∀ k, F k → ¬ S k ∧ k < w.heap.size
/-- Bytes that lie in old memory or in F. -/
def Bf (w0 : World) (F : Nat → Prop) (ao : Option Addr) (s : ByteArray) : Prop := s.size = 0 ∨ ∀ a, ao = some a → a.block < w0.heap.size ∨ F a.block
theorem Bs.bf {w0 : World} {ao : Option Addr} {s : ByteArray} (h : Bs w0 ao s) (F : Nat → Prop) : Bf w0 F ao s := h.lt.imp id fun h a e => .inl (h a e)
section
variable {w0 w : World} {F : Nat → Prop} {p : Nat} {rm : Int} {bm : Nat} {h m : Int} {E : List En}
theorem Cf.bel (c : Cf w0 w F p rm bm h m E) : Below w0.heap.size w0 w := c.elim fun _ ⟨_, _, c, _⟩ => c.bel
theorem Cf.below {w' : World} (c : Cf w0 w F p rm bm h m E) (hb : Below w.heap.size w w') : Cf w0 w' F p rm bm h m E := by
  obtain ⟨S, L, e, c, hF⟩ := c
  exact ⟨S, L, e, c.below hb, fun k hk => ⟨(hF k hk).1, Nat.lt_of_lt_of_le (hF k hk).2 hb.size⟩⟩
/-- New blocks are none of the cache's. -/
theorem Cf.more {w' : World} (c : Cf w0 w F p rm bm h m E) (hb : Below w.heap.size w w') {F' : Nat → Prop} (hF' : ∀ k, F' k → F k ∨ (w.heap.size ≤ k ∧ k < w'.heap.size)) : Cf w0 w' F' p rm bm h m E := by
  obtain ⟨S, L, e, c, hF⟩ := c
  refine ⟨S, L, e, c.below hb, fun k hk => ?_⟩
  rcases hF' k hk with h | h
  · exact ⟨(hF k h).1, Nat.lt_of_lt_of_le (hF k h).2 hb.size⟩
  · exact ⟨fun hs => by have := (c.ns k hs).2; omega, h.2⟩
theorem Cf.less (c : Cf w0 w F p rm bm h m E) {F' : Nat → Prop} (hF' : ∀ k, F' k → F k) : Cf w0 w F' p rm bm h m E := by
  obtain ⟨S, L, e, c, hF⟩ := c
  exact ⟨S, L, e, c, fun k hk => hF k (hF' k hk)⟩
/-- A store into F's memory. -/
theorem Cf.set (c : Cf w0 w F p rm bm h m E) {b : Nat} (hb : w0.heap.size ≤ b) (hs : F b) (o : Nat) (v : Value) : Cf w0 (w.setCell ⟨b, o, none⟩ v) F p rm bm h m E := by
  obtain ⟨S, L, e, c, hF⟩ := c
  exact ⟨S, L, e, c.set hb (hF b hs).1 o v, fun k hk => by simpa using hF k hk⟩
theorem Bf.bo {S : Nat → Prop} {L : List Ce} (c : Cw w0 w S p rm bm h m L) (hF : ∀ k, F k → ¬ S k ∧ k < w.heap.size) {ao : Option Addr} {s : ByteArray} (hd : Bf w0 F ao s) : Bo S ao s :=
  hd.imp id fun hd a e hs => by
    rcases hd a e with h | h
    · have := (c.ns _ hs).1; omega
    · exact (hF _ h).1 hs
theorem cf_get (c : Cf w0 w F p rm bm h m E) (ao : Option Addr) (cap : Nat) (s : ByteArray) (hs : Bs w ao s) (hd : Bf w0 F ao s) (hz : s.size ≤ 9223372036854775807) (hh : h < 4611686018427387904) (hm : m < 4611686018427387904) :
    Calls Try.prog 10 #[.pointer (some ⟨p, 0, none⟩), .slice ao s.size cap] w fun e w' => ∃ bo bc, e = .returned (.tuple #[rsv (.slice bo (gtL E s).length bc) (gtA E s), .bool (gtB E s)]) ∧ (bo = none → bc = 0) ∧ Ow w' w.heap.size (.slice bo (gtL E s).length bc) (gtL E s) ∧ Cf w0 w' F p rm bm (if gtB E s = true then h + 1 else h) (if gtB E s = true then m else m + 1) (gtE E s) ∧ Fk F w w' := by
  obtain ⟨S, L, rfl, c, hF⟩ := c
  refine (cw_get c ao cap s hs (hd.bo c hF) hz hh hm).mono ?_
  rintro e w' ⟨v, L', rfl, ow, hc, c', b⟩
  obtain ⟨bo, bc, rfl, h0, -, -⟩ := ow.nm
  exact ⟨bo, bc, rfl, h0, ow, ⟨S, L', hc, c', fun k hk => ⟨(hF k hk).1, Nat.lt_of_lt_of_le (hF k hk).2 b.size⟩⟩, Fk.of b fun k hk => (hF k hk).1⟩
/-- What Put answers. -/
def puV (s : ByteArray) : Int := if s.size ≤ 65536 then 0 else 2
/-- What it leaves. -/
def puE (r : Nat) (E : List En) (s : ByteArray) (l : List Int) (a : Int) : List En := if s.size ≤ 65536 then ptE r E (s, l, a) else E
theorem cf_put (c : Cf w0 w F p rm bm h m E) (ao : Option Addr) (cap : Nat) (s : ByteArray) (hs : Bs w ao s) (hd : Bf w0 F ao s)
    (ro : Option Addr) (rc : Nat) (l : List Int) (a : Int) (hrc : ro = none → rc = 0) (hr : Nm w ro l) (hM : l.length * 8 ≤ 140737488355328) :
    Calls Try.prog 11 #[.pointer (some ⟨p, 0, none⟩), .slice ao s.size cap, rsv (.slice ro l.length rc) a] w fun e w' => e = .returned (.int .i64 (puV s)) ∧ Cf w0 w' F p rm bm h m (puE rm.toNat E s l a) ∧ Fk F w w' := by
  by_cases hz : s.size ≤ 65536
  · unfold puV puE
    rw [if_pos hz, if_pos hz]
    obtain ⟨S, L, rfl, c, hF⟩ := c
    refine (cw_put c ao cap s hs (hd.bo c hF) hz ro rc l a hrc hr hM).mono ?_
    rintro e w' ⟨rfl, S', L', hc, c', b, hn⟩
    refine ⟨rfl, ⟨S', L', hc, c', fun k hk => ⟨fun hs' => ?_, Nat.lt_of_lt_of_le (hF k hk).2 b.size⟩⟩, Fk.of b fun k hk => (hF k hk).1⟩
    rcases hn k hs' with h | h
    · exact (hF k hk).1 h
    · have := (hF k hk).2; omega
  · unfold puV puE
    rw [if_neg hz, if_neg hz]
    refine (put_long p w ao s.size cap (.slice ro l.length rc) a (by omega)).mono ?_
    rintro e w' ⟨rfl, b⟩
    exact ⟨rfl, c.below b, Fk.below b⟩
theorem cf_keys (c : Cf w0 w F p rm bm h m E) :
    Calls Try.prog 12 #[.pointer (some ⟨p, 0, none⟩)] w fun e w' => ∃ v ss, e = .returned v ∧ Kl w' w.heap.size v (E.map (·.1)) ss ∧ Cf w0 w' F p rm bm h m E ∧ Fk F w w' := by
  obtain ⟨S, L, rfl, c, hF⟩ := c
  refine (cw_keys c).mono ?_
  rintro e w' ⟨v, ss, rfl, hk, c', b⟩
  exact ⟨v, ss, rfl, hk, ⟨S, L, rfl, c', fun k hk => ⟨(hF k hk).1, Nat.lt_of_lt_of_le (hF k hk).2 b.size⟩⟩, Fk.of b fun k hk => (hF k hk).1⟩
theorem cf_forget (c : Cf w0 w F p rm bm h m E) (ao : Option Addr) (cap : Nat) (s : ByteArray) (hs : Bs w ao s) :
    Calls Try.prog 13 #[.pointer (some ⟨p, 0, none⟩), .slice ao s.size cap] w fun e w' => e = .returned (.int .i64 ((E.length : Int) - ((fgE E s).length : Int))) ∧ Cf w0 w' F p rm bm h m (fgE E s) ∧ Fk F w w' := by
  obtain ⟨S, L, rfl, c, hF⟩ := c
  refine (cw_forget c ao cap s hs).mono ?_
  rintro e w' ⟨L', rfl, hc, c', b⟩
  exact ⟨rfl, ⟨S, L', hc, c', fun k hk => ⟨(hF k hk).1, Nat.lt_of_lt_of_le (hF k hk).2 b.size⟩⟩, Fk.of b fun k hk => (hF k hk).1⟩
theorem cf_stats (c : Cf w0 w F p rm bm h m E) :
    Calls Try.prog 15 #[.pointer (some ⟨p, 0, none⟩)] w fun e w' => e = .returned (.tuple #[.int .i64 h, .int .i64 m]) ∧ Cf w0 w' F p rm bm h m E ∧ Fk F w w' := by
  obtain ⟨S, L, rfl, c, hF⟩ := c
  refine (cw_stats c).mono ?_
  rintro e w' ⟨rfl, c', b⟩
  exact ⟨rfl, ⟨S, L, rfl, c', fun k hk => ⟨(hF k hk).1, Nat.lt_of_lt_of_le (hF k hk).2 b.size⟩⟩, Fk.of b fun k hk => (hF k hk).1⟩
theorem cf_clear (c : Cf w0 w F p rm bm h m E) :
    Calls Try.prog 14 #[.pointer (some ⟨p, 0, none⟩)] w fun e w' => e = .returned (.tuple #[]) ∧ Cf w0 w' F p rm bm h m [] ∧ Fk F w w' := by
  obtain ⟨S, L, rfl, c, hF⟩ := c
  refine (cw_clear c).mono ?_
  rintro e w' ⟨rfl, c', b⟩
  exact ⟨rfl, ⟨S, [], rfl, c', fun k hk => ⟨(hF k hk).1, Nat.lt_of_lt_of_le (hF k hk).2 b.size⟩⟩, Fk.of b fun k hk => (hF k hk).1⟩
end
theorem cf_new (rm : Int) (h1 : 1 ≤ rm) (h2 : rm ≤ 4096) {w0 w : World} (b0 : Below w0.heap.size w0 w) {F : Nat → Prop} (hF : ∀ k, F k → k < w.heap.size) :
    Calls Try.prog 24 #[.int .i64 rm] w fun e w' => ∃ p bm, e = .returned (.tuple #[.pointer (some ⟨p, 0, none⟩), .int .i64 0]) ∧ Cf w0 w' F p rm bm 0 0 [] ∧ Below w.heap.size w w' :=
  (cw_new rm h1 h2 b0).mono fun _ _ ⟨S, p, bm, e, c, b, hs⟩ => ⟨p, bm, e, ⟨S, [], rfl, c, fun k hk => ⟨fun h => by have := hs k h; have := hF k hk; omega, Nat.lt_of_lt_of_le (hF k hk) b.size⟩⟩, b⟩
theorem cf_made (room : Int) {w0 w : World} (b0 : Below w0.heap.size w0 w) {F : Nat → Prop} (hF : ∀ k, F k → k < w.heap.size) :
    Calls Try.prog 9 #[.int .i64 room] w fun e w' => ∃ p bm, e = .returned (.tuple #[.pointer (some ⟨p, 0, none⟩), .int .i64 (rmo room)]) ∧ Cf w0 w' F p (rmo room) bm 0 0 [] ∧ Below w.heap.size w w' :=
  (made_any room b0).mono fun _ _ ⟨S, p, bm, e, c, b, hs⟩ => ⟨p, bm, e, ⟨S, [], rfl, c, fun k hk => ⟨fun h => by have := hs k h; have := hF k hk; omega, Nat.lt_of_lt_of_le (hF k hk) b.size⟩⟩, b⟩
end Go.Proofs.Ytpjcpikafpnmpaa
