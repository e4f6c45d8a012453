/- A cache of the law's own: it lies in memory that the law has made. -/
import Derived.Test.YtpjcpikafpnmpaaAK21
namespace Go.Proofs.Ytpjcpikafpnmpaa
open Go.RowKit

/-- The cache, its blocks all new since w0. -/
structure Cw (w0 w : World) (S : Nat → Prop) (p : Nat) (rm : Int) (bm : Nat) (h m : Int) (L : List Ce) : Prop where
  ch : Ch w S p rm 0 bm h m L
  ns : ∀ k, S k → w0.heap.size ≤ k ∧ k < w.heap.size
  bel : Below w0.heap.size w0 w
theorem Cw.below {w0 w w' : World} {S : Nat → Prop} {p : Nat} {rm : Int} {bm : Nat} {h m : Int} {L : List Ce} (c : Cw w0 w S p rm bm h m L) (hb : Below w.heap.size w w') : Cw w0 w' S p rm bm h m L :=
  ⟨c.ch.below hb, fun k hk => ⟨(c.ns k hk).1, Nat.lt_of_lt_of_le (c.ns k hk).2 hb.size⟩, c.bel.trans (hb.mono c.bel.size)⟩
/-- A store into a block of the law's own. -/
theorem Cw.set {w0 w : World} {S : Nat → Prop} {p : Nat} {rm : Int} {bm : Nat} {h m : Int} {L : List Ce} (c : Cw w0 w S p rm bm h m L) {b : Nat} (hb : w0.heap.size ≤ b) (hs : ¬ S b) (o : Nat) (v : Value) : Cw w0 (w.setCell ⟨b, o, none⟩ v) S p rm bm h m L :=
  ⟨c.ch.keep fun k hk _ => Below.heap_setCell w ⟨b, o, none⟩ v k (fun e => hs ((show k = b from e) ▸ hk)), fun k hk => by simpa using c.ns k hk, c.bel.setCell hb v⟩
theorem cw_bel {w0 w w' : World} {S : Nat → Prop} (hn : ∀ k, S k → w0.heap.size ≤ k ∧ k < w.heap.size) (h0 : Below w0.heap.size w0 w) (b : BP S w w') : Below w0.heap.size w0 w' :=
  ⟨b.os.trans h0.os, b.tape.trans h0.tape, b.output.trans h0.output, Nat.le_trans h0.size b.size, fun k hk => (b.block k (Nat.lt_of_lt_of_le hk h0.size) (fun hs => by have := (hn k hs).1; omega)).trans (h0.block k hk)⟩
theorem cw_of {w0 w w' : World} {S : Nat → Prop} {p : Nat} {rm : Int} {bm : Nat} {h m h' m' : Int} {L L' : List Ce} (c : Cw w0 w S p rm bm h m L) (c' : Ch w' S p rm 0 bm h' m' L') (b : BP S w w') : Cw w0 w' S p rm bm h' m' L' :=
  ⟨c', fun k hk => ⟨(c.ns k hk).1, Nat.lt_of_lt_of_le (c.ns k hk).2 b.size⟩, cw_bel c.ns c.bel b⟩
theorem cw_get {w0 w : World} {S : Nat → Prop} {p : Nat} {rm : Int} {bm : Nat} {h m : Int} {L : List Ce} (c : Cw w0 w S p rm bm h m L) (ao : Option Addr) (cap : Nat) (s : ByteArray) (hs : Bs w ao s) (hd : Bo S ao s) (hz : s.size ≤ 9223372036854775807) (hh : h < 4611686018427387904) (hm : m < 4611686018427387904) :
    Calls Try.prog 10 #[.pointer (some ⟨p, 0, none⟩), .slice ao s.size cap] w fun e w' => ∃ v L', e = .returned (.tuple #[rsv v (gtA (ct L) s), .bool (gtB (ct L) s)]) ∧ Ow w' w.heap.size v (gtL (ct L) s) ∧ ct L' = gtE (ct L) s ∧ Cw w0 w' S p rm bm (if gtB (ct L) s = true then h + 1 else h) (if gtB (ct L) s = true then m else m + 1) L' ∧ BP S w w' :=
  (get_any S p L w c.ch ao cap s hs hd hz hh hm (fun k hk => (c.ns k hk).2)).mono fun _ _ ⟨v, L', e, ow, hc, c', b⟩ => ⟨v, L', e, ow, hc, cw_of c c' b, b⟩
theorem cw_put {w0 w : World} {S : Nat → Prop} {p : Nat} {rm : Int} {bm : Nat} {h m : Int} {L : List Ce} (c : Cw w0 w S p rm bm h m L) (ao : Option Addr) (cap : Nat) (s : ByteArray) (hs : Bs w ao s) (hd : Bo S ao s) (hz : s.size ≤ 65536)
    (ro : Option Addr) (rc : Nat) (l : List Int) (a : Int) (hrc : ro = none → rc = 0) (hr : Nm w ro l) (hM : l.length * 8 ≤ 140737488355328) :
    Calls Try.prog 11 #[.pointer (some ⟨p, 0, none⟩), .slice ao s.size cap, rsv (.slice ro l.length rc) a] w fun e w' => e = .returned (.int .i64 0) ∧ ∃ S' L', ct L' = ptE rm.toNat (ct L) (s, l, a) ∧ Cw w0 w' S' p rm bm h m L' ∧ BP S w w' ∧ ∀ k, S' k → S k ∨ (w.heap.size ≤ k) := by
  refine (put_any S p L w c.ch ao cap s hs hd hz (fun k hk => (c.ns k hk).2) ro rc l a hrc hr hM).mono ?_
  rintro e w' ⟨rfl, L', hc, c', b⟩
  refine ⟨rfl, grown S w w', L', hc, ⟨c', ?_, cw_bel c.ns c.bel b⟩, b, ?_⟩
  · rintro k (hk | hk)
    · exact ⟨(c.ns k hk).1, Nat.lt_of_lt_of_le (c.ns k hk).2 b.size⟩
    · exact ⟨Nat.le_trans c.bel.size hk.1, hk.2⟩
  · rintro k (hk | hk)
    · exact .inl hk
    · exact .inr hk.1
theorem cw_keys {w0 w : World} {S : Nat → Prop} {p : Nat} {rm : Int} {bm : Nat} {h m : Int} {L : List Ce} (c : Cw w0 w S p rm bm h m L) :
    Calls Try.prog 12 #[.pointer (some ⟨p, 0, none⟩)] w fun e w' => ∃ v ss, e = .returned v ∧ Kl w' w.heap.size v ((ct L).map (·.1)) ss ∧ Cw w0 w' S p rm bm h m L ∧ BP S w w' := by
  have e1 : (ct L).map (·.1) = L.map (·.k) := by simp [ct]
  rw [e1]
  exact (keys_any S p L w c.ch (fun k hk => (c.ns k hk).2)).mono fun _ _ ⟨v, ss, e, hk, c', b⟩ => ⟨v, ss, e, hk, cw_of c c' b, b⟩
/-- What Forget leaves. -/
def fgE (E : List En) (f : ByteArray) : List En := E.filter fun e => !pf f e.1
theorem ct_lf (f : ByteArray) (L : List Ce) : ct (lf f L) = fgE (ct L) f := by
  unfold ct lf fgE
  rw [List.filter_map]
  rfl
theorem cw_forget {w0 w : World} {S : Nat → Prop} {p : Nat} {rm : Int} {bm : Nat} {h m : Int} {L : List Ce} (c : Cw w0 w S p rm bm h m L) (ao : Option Addr) (cap : Nat) (s : ByteArray) (hs : Bs w ao s) :
    Calls Try.prog 13 #[.pointer (some ⟨p, 0, none⟩), .slice ao s.size cap] w fun e w' => ∃ L', e = .returned (.int .i64 (((ct L).length : Int) - ((fgE (ct L) s).length : Int))) ∧ ct L' = fgE (ct L) s ∧ Cw w0 w' S p rm bm h m L' ∧ BP S w w' := by
  refine (forget_any S p L w c.ch (fun k hk => (c.ns k hk).2) ao cap s hs).mono ?_
  rintro e w' ⟨rfl, c', b⟩
  refine ⟨lf s L, ?_, ct_lf s L, cw_of c c' b, b⟩
  rw [← ct_lf]
  simp [ct]
theorem cw_stats {w0 w : World} {S : Nat → Prop} {p : Nat} {rm : Int} {bm : Nat} {h m : Int} {L : List Ce} (c : Cw w0 w S p rm bm h m L) :
    Calls Try.prog 15 #[.pointer (some ⟨p, 0, none⟩)] w fun e w' => e = .returned (.tuple #[.int .i64 h, .int .i64 m]) ∧ Cw w0 w' S p rm bm h m L ∧ BP S w w' :=
  (stats_any S p w c.ch).mono fun _ _ ⟨e, c', b, _⟩ => ⟨e, cw_of c c' b, b⟩
theorem cw_clear {w0 w : World} {S : Nat → Prop} {p : Nat} {rm : Int} {bm : Nat} {h m : Int} {L : List Ce} (c : Cw w0 w S p rm bm h m L) :
    Calls Try.prog 14 #[.pointer (some ⟨p, 0, none⟩)] w fun e w' => e = .returned (.tuple #[]) ∧ Cw w0 w' S p rm bm h m [] ∧ BP S w w' :=
  (cclear_any S p w c.ch).mono fun _ _ ⟨e, c', b, _⟩ => ⟨e, cw_of c c' b, b⟩
theorem cw_new (rm : Int) (h1 : 1 ≤ rm) (h2 : rm ≤ 4096) {w0 w : World} (b0 : Below w0.heap.size w0 w) :
    Calls Try.prog 24 #[.int .i64 rm] w fun e w' => ∃ S p bm, e = .returned (.tuple #[.pointer (some ⟨p, 0, none⟩), .int .i64 0]) ∧ Cw w0 w' S p rm bm 0 0 [] ∧ Below w.heap.size w w' ∧ ∀ k, S k → w.heap.size ≤ k := by
  refine (cnew_ok rm h1 h2 w).mono ?_
  rintro e w' ⟨p, bm, rfl, hp, hb, c, b⟩
  refine ⟨_, p, bm, rfl, ⟨c, ?_, b0.trans (b.mono b0.size)⟩, b, ?_⟩
  · have := b0.size
    rintro k (rfl | rfl)
    · exact ⟨by omega, c.rw.box.lt⟩
    · exact ⟨by omega, c.mp.lt⟩
  · rintro k (rfl | rfl) <;> assumption
/-- The room that made takes. -/
def rmo (room : Int) : Int := if 1 ≤ room ∧ room ≤ 4096 then room else 3
set_option maxRecDepth 100000 in
theorem made_any (room : Int) {w0 w : World} (b0 : Below w0.heap.size w0 w) :
    Calls Try.prog 9 #[.int .i64 room] w fun e w' => ∃ S p bm, e = .returned (.tuple #[.pointer (some ⟨p, 0, none⟩), .int .i64 (rmo room)]) ∧ Cw w0 w' S p (rmo room) bm 0 0 [] ∧ Below w.heap.size w w' ∧ ∀ k, S k → w.heap.size ≤ k := by
  by_cases h : 1 ≤ room ∧ room ≤ 4096
  · rw [show rmo room = room from if_pos h]
    have HN := hid1 (cw_new room h.1 h.2 b0)
    have h1 : ¬ room < 1 := by omega
    have h2 : ¬ 4096 < room := by omega
    clear h
    go_enter Try.func9, Try.ntmps9
    go_wp2_with (go_at_call 24; refine HN.out.mono ?_; rintro e w' ⟨S, p, bm, rfl, hc, hb, hs⟩)
    go_ret2
    exact ⟨S, p, bm, rfl, hc, hb, hs⟩
  · rw [show rmo room = 3 from if_neg h]
    have HN := hid1 (cw_new 3 (by omega) (by omega) b0)
    by_cases h1 : room < 1
    · clear h
      go_enter Try.func9, Try.ntmps9
      go_wp2_with (go_at_call 24; refine HN.out.mono ?_; rintro e w' ⟨S, p, bm, rfl, hc, hb, hs⟩)
      go_ret2
      exact ⟨S, p, bm, rfl, hc, hb, hs⟩
    · have h2 : 4096 < room := by omega
      clear h
      go_enter Try.func9, Try.ntmps9
      go_wp2_with (go_at_call 24; refine HN.out.mono ?_; rintro e w' ⟨S, p, bm, rfl, hc, hb, hs⟩)
      go_ret2
      exact ⟨S, p, bm, rfl, hc, hb, hs⟩
end Go.Proofs.Ytpjcpikafpnmpaa
