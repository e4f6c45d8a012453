/- CACHE: Get. -/
import Derived.Test.YtpjcpikafpnmpaaAK7
namespace Go.Proofs.Ytpjcpikafpnmpaa
open Go.RowKit Go.MuLone

/-- The world behind a box and the lock taken. -/
theorem locked {w : World} {S : Nat → Prop} {p : Nat} {rm : Int} {bm : Nat} {h m : Int} {L : List Ce} (c : Ch w S p rm 0 bm h m L) (o : Obj) :
    Ch ((w.alloc o).setCell ⟨p, 1, none⟩ (.int .i32 1)) S p rm 1 bm h m L ∧ BP S w ((w.alloc o).setCell ⟨p, 1, none⟩ (.int .i32 1)) := ⟨(c.below ((Below.refl _ _).alloc (Nat.le_refl _) o)).lock 1, ((BP.refl S w).alloc o).setA (a := ⟨p, 1, none⟩) c.sp _⟩
/-- Bytes that lie in none of a set's blocks. -/
def Bo (S : Nat → Prop) (ao : Option Addr) (s : ByteArray) : Prop := s.size = 0 ∨ ∀ a, ao = some a → ¬ S a.block
theorem Bs.bp {w w' : World} {S : Nat → Prop} {ao : Option Addr} {s : ByteArray} (h : Bs w ao s) (hb : BP S w w') (hd : Bo S ao s) : Bs w' ao s := by
  rcases hd with h0 | hd
  · exact .inl h0
  rcases h with h | ⟨g, o, rfl, h⟩
  · exact .inl h
  · exact .inr ⟨g, o, rfl, fun i hi => hb.cell (hd _ rfl) (h i hi)⟩
/-- A store into a block of another kind. -/
theorem Ch.other {w : World} {S : Nat → Prop} {p : Nat} {rm mu : Int} {bm : Nat} {h m : Int} {L : List Ce} (c : Ch w S p rm mu bm h m L) {b t n : Nat} {f : Nat → Value} (r : w.rowIs b t n f) (ht : t ≠ 75 ∧ t ≠ 81 ∧ t ≠ 2) (o : Nat) (v : Value) : Ch (w.setCell ⟨b, o, none⟩ v) S p rm mu bm h m L := by
  have hb : ∀ k, k ≠ b → (w.setCell ⟨b, o, none⟩ v).heap[k]? = w.heap[k]? := fun k hk => Below.heap_setCell w ⟨b, o, none⟩ _ k hk
  refine ⟨c.rw.keep (hb _ (row_ne c.rw.box r ht.1.symm)) (fun x hx => hb _ ?_), c.mp.keep (hb _ (c.mp.ne r)), fun x hx => (c.lg x hx).block fun g hg => hb g ?_, c.ks, c.kz, c.sp, c.sm, c.se, c.rom, c.cnt⟩
  · obtain ⟨_, _, e⟩ := c.rw.seg.at x hx
    exact row_ne e r ht.2.1.symm
  · rcases (c.lg x hx).form with ⟨e, _⟩ | ⟨g', cap, f, e, _, row, _⟩
    · rw [e] at hg; cases hg
    · rw [e] at hg; injection hg with hg; subst hg
      exact row_ne row r ht.2.2.symm
theorem heap_drewN (w : World) (n : Nat) : (w.drewN n).heap = w.heap := by
  induction n with
  | zero => rfl
  | succ n ih => exact ih
theorem conv_qt {w : World} {ao : Option Addr} {s : ByteArray} {cap : Nat} (h : Bs w ao s) (n : Nat) : (convert 28 9 (.slice ao s.size cap)).run Try.prog (w.drewN n) = .ok (.string s) (w.drewN n) :=
  conv_str (h.block fun g o _ => by rw [heap_drewN])
theorem miss_qt {w : World} {bm : Nat} {L : List Ce} (h : Mp w bm L) {s : ByteArray} (hs : ∀ x ∈ L, x.k ≠ s) (hz : s.size ≤ 9223372036854775807) (n : Nat) : (Instr.lookup 70 (.map (some bm)) (.string s) true).run Try.prog (w.drewN n) = .ok (.tuple #[.pointer none, .bool false]) (w.drewN n) :=
  h.miss hs hz _ (by rw [heap_drewN])
theorem hit_qt {w : World} {bm : Nat} {L : List Ce} (h : Mp w bm L) {x : Ce} (hx : x ∈ L) (hz : x.k.size ≤ 65536) (n : Nat) : (Instr.lookup 70 (.map (some bm)) (.string x.k) true).run Try.prog (w.drewN n) = .ok (.tuple #[.pointer (some ⟨x.b, 0, none⟩), .bool true]) (w.drewN n) :=
  h.hit hx hz _ (by rw [heap_drewN])
set_option maxHeartbeats 1600000 in
set_option maxRecDepth 100000 in
theorem get_miss (S : Nat → Prop) (p : Nat) {rm : Int} {bm : Nat} {h m : Int} {L : List Ce} (w : World) (c : Ch w S p rm 0 bm h m L) (ao : Option Addr) (cap : Nat) (s : ByteArray) (hs : Bs w ao s) (hd : Bo S ao s) (hz : s.size ≤ 9223372036854775807) (hm : m < 4611686018427387904) (hn : ∀ x ∈ L, x.k ≠ s) :
    Calls Try.prog 10 #[.pointer (some ⟨p, 0, none⟩), .slice ao s.size cap] w fun e w' => e = .returned (.tuple #[rsv (.slice none 0 0) 0, .bool false]) ∧ Ch w' S p rm 0 bm h (m + 1) L ∧ BP S w w' := by
  have HC := hid1 c
  have hp : p < w.heap.size := c.rw.box.lt
  have hpn : w.heap.size ≠ p := by omega
  have c1 := (c.rw.box.alloc (.cells #[.slice none 0 0, .int .i64 0] 31)).cell (i := 1) (by omega)
  have f1 := (c.rw.box.alloc (.cells #[.slice none 0 0, .int .i64 0] 31)).frozen 1
  obtain ⟨c', hb'⟩ := locked c (.cells #[.slice none 0 0, .int .i64 0] 31)
  have hr' := (rf_new w (.slice none 0 0) 0).setOther (a := ⟨p, 1, none⟩) hpn (.int .i32 1)
  have hs' : Bs ((w.alloc (.cells #[.slice none 0 0, .int .i64 0] 31)).setCell ⟨p, 1, none⟩ (.int .i32 1)) ao s := hs.bp hb' hd
  have hz' : ((w.alloc (.cells #[.slice none 0 0, .int .i64 0] 31)).setCell ⟨p, 1, none⟩ (.int .i32 1)).heap.size = w.heap.size + 1 := by simp
  dsimp only [cf] at c1
  clear c
  go_enter_defers Try.func10, Try.ntmps10
  go_wp2_with (go_at_call 27; refine (lock_free muLib ⟨p, 1, none⟩ _ c1 f1).mono ?_; rintro e w' ⟨rfl, rfl⟩; generalize hw : (w.alloc (.cells #[.slice none 0 0, .int .i64 0] 31)).setCell ⟨p, 1, none⟩ (.int .i32 1) = w1 at *; clear c1 f1 hw)
  have hcv := conv_qt (cap := cap) hs'
  have hlk := miss_qt c'.mp hn hz
  have p3 := c'.rw.box.cell (i := 3) (by omega)
  dsimp only [cf] at p3
  have HC' := hid1 c'
  clear c'
  clear hn
  generalize s.size = sz at *
  go_quiet (fail)
  have q : Qt w1 (w1.drewN nq) := ⟨nq, rfl⟩
  have c2 := HC'.out.qt q
  have r2 := row_qt hr' q
  have b2 := hb'.qt q
  have z2 : (w1.drewN nq).heap.size = w.heap.size + 1 := (size_qt q).trans hz'
  generalize w1.drewN nq = w2 at *
  have p7 := c2.rw.box.cell (i := 7) (by omega)
  have g7 := c2.rw.box.frozen 7
  have e0 := r2.cell (i := 0) (by omega)
  have e1 := r2.cell (i := 1) (by omega)
  have k0 := r2.frozen 0
  have k1 := r2.frozen 1
  dsimp only [cf, rf] at p7 e0 e1
  have z3 : p < w2.heap.size := by omega
  have z4 : w.heap.size < w2.heap.size := by omega
  have HC2 := hid1 (And.intro c2 (And.intro r2 b2))
  have hm0 : 0 ≤ m := c2.cnt.2
  clear c2 r2 b2 hs hs' hr' hb' q z2
  go_wp2_with (go_at_call 29; refine (more_any m _ hm0 hm).mono ?_; rintro e w' ⟨rfl, e9⟩; rw [e9]; clear e9)
  obtain ⟨c2, r2, b2⟩ := HC2.out
  have c3 := c2.counM (m + 1) (by omega)
  have r3 := r2.setOther (a := ⟨p, 7, none⟩) hpn (.int .i64 (m + 1))
  have r4 := r3.set 0 (.slice none 0 0)
  have r5 := r4.set 1 (.int .i64 0)
  have c5 := (c3.other r3 (by decide) 0 (.slice none 0 0)).other r4 (by decide) 1 (.int .i64 0)
  have b5 := (((b2.setA (a := ⟨p, 7, none⟩) c2.sp (.int .i64 (m + 1))).set (g := w.heap.size) (o := 0) (.inr (Nat.le_refl _)) (.slice none 0 0)).set (g := w.heap.size) (o := 1) (.inr (Nat.le_refl _)) (.int .i64 0))
  have r6 := r5.setOther (a := ⟨p, 1, none⟩) hpn (.int .i32 0)
  have q0 := r6.cell (i := 0) (by omega)
  have q1 := r6.cell (i := 1) (by omega)
  dsimp only [rf] at q0 q1
  simp only [if_true, Nat.zero_ne_one, if_false] at q0 q1
  have d1 := c5.rw.box.cell (i := 1) (by omega)
  have g1 := c5.rw.box.frozen 1
  refine door (.tuple #[rsv (.slice none 0 0) 0, .bool false]) d1 g1 ?_ ⟨rfl, c5.lock 0, b5.setA (a := ⟨p, 1, none⟩) c2.sp _⟩
  generalize (((w2.setCell ⟨p, 7, none⟩ (.int .i64 (m + 1))).setCell ⟨w.heap.size, 0, none⟩ (.slice none 0 0)).setCell ⟨w.heap.size, 1, none⟩ (.int .i64 0)).setCell ⟨p, 1, none⟩ (.int .i32 0) = w9 at *
  simp [results, Try.results10, go_sem, q0, q1]
end Go.Proofs.Ytpjcpikafpnmpaa
