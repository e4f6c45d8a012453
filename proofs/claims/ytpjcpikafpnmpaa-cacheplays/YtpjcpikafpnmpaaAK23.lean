/- heddlelaw25.begun. -/
import Derived.Test.YtpjcpikafpnmpaaAK22
import Derived.Lib.SlBytesConst
import Derived.Lib.SmallJoins
namespace Go.Proofs.Ytpjcpikafpnmpaa
open Go.RowKit

/-- A literal's bytes, laid. -/
theorem lit_bs (X : World) (s : ByteArray) (C : Array Value) (fr : Nat × Nat) (hC : ∀ i, (hi : i < s.size) → C[i]? = some (.int .u8 (s[i].toNat : Int))) : Bs (X.alloc (.cells C 5 fr)) (some ⟨X.heap.size, 0, none⟩) s :=
  .inr ⟨_, 0, rfl, fun i hi => by rw [Nat.zero_add, World.cell?_alloc_mark]; exact hC i hi⟩
abbrev kA : ByteArray := ⟨#[97]⟩
abbrev kB : ByteArray := ⟨#[98]⟩
abbrev kAB : ByteArray := ⟨#[97, 98]⟩
theorem lit_A (X : World) : Bs (X.alloc (.cells #[.int .u8 97] 5 (1, 2))) (some ⟨X.heap.size, 0, none⟩) kA := lit_bs X kA _ _ fun i hi => by
  rcases i with _ | i
  · rfl
  · exact absurd hi (by show ¬ (i + 1 < 1); omega)
theorem lit_B (X : World) : Bs (X.alloc (.cells #[.int .u8 98] 5 (1, 2))) (some ⟨X.heap.size, 0, none⟩) kB := lit_bs X kB _ _ fun i hi => by
  rcases i with _ | i
  · rfl
  · exact absurd hi (by show ¬ (i + 1 < 1); omega)
theorem lit_AB (X : World) : Bs (X.alloc (.cells #[.int .u8 97, .int .u8 98] 5 (2, 3))) (some ⟨X.heap.size, 0, none⟩) kAB := lit_bs X kAB _ _ fun i hi => by
  rcases i with _ | _ | i
  · rfl
  · rfl
  · exact absurd hi (by show ¬ (i + 1 + 1 < 2); omega)
theorem ns_new {w0 w : World} {S : Nat → Prop} {p : Nat} {rm : Int} {bm : Nat} {h m : Int} {L : List Ce} (c : Cw w0 w S p rm bm h m L) {s : ByteArray} : Bo S (some ⟨w.heap.size, 0, none⟩) s := .inr fun a e hs => by
  injection e with e; subst e
  have := (c.ns _ hs).2
  exact absurd this (Nat.lt_irrefl _)
theorem Kd.below {w w' : World} {ao : Option Addr} {ks : List ByteArray} (h : Kd w ao ks) (hb : Below w.heap.size w w') : Kd w' ao ks := fun i k hi => by
  obtain ⟨g, o, ai, ci, e, c, bs⟩ := h i k hi
  exact ⟨g, o, ai, ci, e, keepc hb c, bs.below hb⟩
theorem lit_keys (X : World) : Kd (((X.alloc (.cells #[.int .u8 97, .int .u8 98] 5)).alloc (.cells #[.int .u8 97] 5)).alloc (.cells #[.slice (some ⟨X.heap.size, 0, none⟩) 2 2, .slice (some ⟨X.heap.size + 1, 0, none⟩) 1 1] 28)) (some ⟨X.heap.size + 1 + 1, 0, none⟩) [kAB, kA] := by
  have b1 : Bs (X.alloc (.cells #[.int .u8 97, .int .u8 98] 5)) (some ⟨X.heap.size, 0, none⟩) kAB := lit_bs X kAB _ _ fun i hi => by
    rcases i with _ | _ | i
    · rfl
    · rfl
    · exact absurd hi (by show ¬ (i + 1 + 1 < 2); omega)
  have b2 : Bs ((X.alloc (.cells #[.int .u8 97, .int .u8 98] 5)).alloc (.cells #[.int .u8 97] 5)) (some ⟨(X.alloc (.cells #[.int .u8 97, .int .u8 98] 5)).heap.size, 0, none⟩) kA := lit_bs _ kA _ _ fun i hi => by
    rcases i with _ | i
    · rfl
    · exact absurd hi (by show ¬ (i + 1 < 1); omega)
  rw [World.size_alloc] at b2
  have r := World.rowIs_alloc ((X.alloc (.cells #[.int .u8 97, .int .u8 98] 5)).alloc (.cells #[.int .u8 97] 5)) #[.slice (some ⟨X.heap.size, 0, none⟩) 2 2, .slice (some ⟨X.heap.size + 1, 0, none⟩) 1 1] 28 (fun i => if i = 0 then .slice (some ⟨X.heap.size, 0, none⟩) 2 2 else .slice (some ⟨X.heap.size + 1, 0, none⟩) 1 1) (fun i hi => by
    rcases i with _ | _ | i
    · rfl
    · rfl
    · exact absurd hi (by show ¬ (i + 1 + 1 < 2); omega))
  rw [World.size_alloc, World.size_alloc] at r
  intro i k hi
  rcases i with _ | _ | i
  · simp at hi; subst hi
    exact ⟨_, _, _, _, rfl, r.cell (i := 0) (by simp), (b1.below (bl_alloc (Below.refl _ _) _)).below (bl_alloc (Below.refl _ _) _)⟩
  · simp at hi; subst hi
    exact ⟨_, _, _, _, rfl, r.cell (i := 1) (by simp), b2.below (bl_alloc (Below.refl _ _) _)⟩
  · simp at hi
abbrev E1 : List En := [(kA, [7], 1)]
abbrev E2 : List En := [(kB, [], 2), (kA, [7], 1)]
abbrev E3 : List En := [(kA, [7], 1), (kB, [], 2)]
abbrev E4 : List En := [(kAB, [], 3), (kA, [7], 1)]
theorem g0 : gtA [] kA = 0 ∧ gtB [] kA = false ∧ gtL [] kA = [] ∧ gtE [] kA = [] := ⟨rfl, rfl, rfl, rfl⟩
theorem p1 : ptE 2 [] (kA, [7], 1) = E1 := by decide
theorem p2 : ptE 2 E1 (kB, [], 2) = E2 := by decide
theorem g3 : gtA E2 kA = 1 ∧ gtB E2 kA = true ∧ gtL E2 kA = [7] ∧ gtE E2 kA = E3 := by decide
theorem p4 : ptE 2 E3 (kAB, [], 3) = E4 := by decide
theorem f5 : E4.map (·.1) = [kAB, kA] := rfl
/-- Get, its answer known. -/
theorem cw_getE {w0 w : World} {S : Nat → Prop} {p : Nat} {rm : Int} {bm : Nat} {h m : Int} {L : List Ce} (c : Cw w0 w S p rm bm h m L) (ao : Option Addr) (cap : Nat) (s : ByteArray) (n : Nat) (hn : s.size = n) (hs : Bs w ao s) (hd : Bo S ao s) (hz : s.size ≤ 9223372036854775807) (hh : h < 4611686018427387904) (hm : m < 4611686018427387904)
    {E E' : List En} {a : Int} {b : Bool} {l : List Int} {k : Nat} (hE : ct L = E) (hv : gtA E s = a ∧ gtB E s = b ∧ gtL E s = l ∧ gtE E s = E') (hk : l.length = k) {h' m' : Int} (hh' : (if b = true then h + 1 else h) = h') (hm' : (if b = true then m else m + 1) = m') :
    Calls Try.prog 10 #[.pointer (some ⟨p, 0, none⟩), .slice ao n cap] w fun e w' => ∃ bo c L', e = .returned (.tuple #[rsv (.slice bo k c) a, .bool b]) ∧ (bo = none → c = 0) ∧ Ow w' w.heap.size (.slice bo k c) l ∧ ct L' = E' ∧ Cw w0 w' S p rm bm h' m' L' ∧ BP S w w' := by
  subst hn hE
  obtain ⟨rfl, rfl, rfl, rfl⟩ := hv
  subst hk hh' hm'
  refine (cw_get c ao cap s hs hd hz hh hm).mono ?_
  rintro e w' ⟨v, L', rfl, ow, hc, c', b⟩
  obtain ⟨bo, c, rfl, h0, -, -⟩ := ow.nm
  exact ⟨bo, c, L', rfl, h0, ow, hc, c', b⟩
theorem cw_putE {w0 w : World} {S : Nat → Prop} {p : Nat} {rm : Int} {bm : Nat} {h m : Int} {L : List Ce} (c : Cw w0 w S p rm bm h m L) (ao : Option Addr) (cap : Nat) (s : ByteArray) (n : Nat) (hn : s.size = n) (hs : Bs w ao s) (hd : Bo S ao s) (hz : s.size ≤ 65536)
    (ro : Option Addr) (rc : Nat) (l : List Int) (a : Int) (k : Nat) (hk : l.length = k) (hrc : ro = none → rc = 0) (hr : Nm w ro l) (hM : l.length * 8 ≤ 140737488355328) {E E' : List En} (hE : ct L = E) (hv : ptE rm.toNat E (s, l, a) = E') :
    Calls Try.prog 11 #[.pointer (some ⟨p, 0, none⟩), .slice ao n cap, rsv (.slice ro k rc) a] w fun e w' => e = .returned (.int .i64 0) ∧ ∃ S' L', ct L' = E' ∧ Cw w0 w' S' p rm bm h m L' ∧ BP S w w' ∧ ∀ k, S' k → S k ∨ (w.heap.size ≤ k) := by
  subst hn hE hk hv
  exact cw_put c ao cap s hs hd hz ro rc l a hrc hr hM
set_option maxHeartbeats 3200000 in
set_option maxRecDepth 100000 in
theorem begun_any (w : World) : Calls Try.prog 8 #[] w fun e w' => e = .returned (.bool true) ∧ Below w.heap.size w w' := by
  have HN := hid1 (cw_new 2 (by omega) (by omega) (Below.refl w.heap.size w))
  have kc := fun (W : World) C n c => Lib.run_convert_bytes_const (P := Try.prog) W 28 5 C n c und_bytes und_u8
  go_enter Try.func8, Try.ntmps8
  go_upto_region 4 with (go_at_call 24; refine HN.out.mono ?_; rintro e X1 ⟨S1, p, bm, rfl, c1, -, -⟩)
  have HG := hid1 (cw_getE (c1.below (bl_alloc (Below.refl _ _) _)) _ 1 kA 1 rfl (lit_A X1) (ns_new c1) (by decide) (by omega) (by omega) rfl g0 rfl (h' := 0) (m' := 1) rfl rfl)
  clear c1
  go_upto_region 5 with (go_at_call 10; refine HG.out.mono ?_; rintro e X2 ⟨bo2, k2, L2, rfl, -, -, e2, c2, b2⟩)
  refine gen_world (fun X => Cw w X S1 p 2 bm 0 1 L2) ?_ ?_
  · simpa using c2.below (bl_alloc (Below.refl _ X2) (.cells #[.slice bo2 0 k2, .int .i64 0] 31))
  rintro X3 c3
  clear c2 b2 HG
  generalize X2.heap.size = r2
  have hn7 : Nm ((X3.alloc (.cells #[.int .u8 97] 5 (1, 2))).alloc (.cells #[.int .i64 7] 2)) (some ⟨X3.heap.size + 1, 0, none⟩) [7] := fun j x hj => by
    rcases j with _ | j
    · simp at hj; subst hj
      refine ⟨_, _, rfl, ?_⟩
      have := new_cell (X3.alloc (.cells #[.int .u8 97] 5 (1, 2))) (.int .i64 7) 2
      rwa [World.size_alloc] at this
    · simp at hj
  have HP1 := hid1 (cw_putE (c3.below (bl_alloc (bl_alloc (Below.refl _ X3) (.cells #[.int .u8 97] 5 (1, 2))) (.cells #[.int .i64 7] 2))) _ 1 kA 1 rfl ((lit_A X3).below (bl_alloc (Below.refl _ _) _)) (ns_new c3) (by decide) (some ⟨X3.heap.size + 1, 0, none⟩) 1 [7] 1 1 rfl (fun e => by cases e) hn7 (by decide) e2 p1)
  clear c3 hn7
  go_upto_region 6 with (go_at_call 11; refine HP1.out.mono ?_; rintro e X4 ⟨rfl, S4, L4, e4, c4, -, -⟩)
  clear HP1
  have HP2 := hid1 (cw_putE (c4.below (bl_alloc (Below.refl _ X4) (.cells #[.int .u8 98] 5 (1, 2)))) _ 1 kB 1 rfl (lit_B X4) (ns_new c4) (by decide) none 0 [] 2 0 rfl (fun _ => rfl) (Nm.nil _ _) (by decide) e4 p2)
  clear c4
  go_upto_region 7 with (go_at_call 11; refine HP2.out.mono ?_; rintro e X5 ⟨rfl, S5, L5, e5, c5, -, -⟩)
  clear HP2
  have HG7 := hid1 (cw_getE (c5.below (bl_alloc (Below.refl _ X5) (.cells #[.int .u8 97] 5 (1, 2)))) _ 1 kA 1 rfl (lit_A X5) (ns_new c5) (by decide) (by omega) (by omega) e5 g3 rfl (h' := 1) (m' := 1) rfl rfl)
  have hz5 := fun k hk => (c5.ns k hk).2
  clear c5
  go_upto_region 8 with (go_at_call 10; refine HG7.out.mono ?_; rintro e X6 ⟨bo6, k6, L6, rfl, -, ow6, e6, c6, b6⟩)
  clear HG7
  refine gen_world (fun X => Cw w X S5 p 2 bm 1 1 L6 ∧ X.rowIs X6.heap.size 31 2 (rf (.slice bo6 1 k6) 1) ∧ Ow X X5.heap.size (.slice bo6 1 k6) [7] ∧ X5.heap.size ≤ X6.heap.size) ?_ ?_
  · have al : Below X6.heap.size X6 (X6.alloc (.cells #[.slice bo6 1 k6, .int .i64 1] 31)) := bl_alloc (Below.refl _ _) _
    have hsz := b6.size
    simp at hsz
    simpa using And.intro (c6.below al) (And.intro (rf_new X6 (.slice bo6 1 k6) 1) (And.intro ((ow6.base (by simp)).below al) (show X5.heap.size ≤ X6.heap.size by omega)))
  rintro X7 ⟨c7, r7, ow7, z7⟩
  clear c6 b6 ow6
  generalize X6.heap.size = q7 at *
  have al8 : Below X7.heap.size X7 (X7.alloc (.cells #[.int .u8 97, .int .u8 98] 5 (2, 3))) := bl_alloc (Below.refl _ X7) _
  have HP4 := hid1 (cw_putE (c7.below al8) _ 2 kAB 2 rfl (lit_AB X7) (ns_new c7) (by decide) none 0 [] 3 0 rfl (fun _ => rfl) (Nm.nil _ _) (by decide) e6 p4)
  have r8 := keepr al8 r7
  have ow8 := ow7.below al8
  clear c7 r7 ow7
  go_upto_region 9 with (go_at_call 11; refine HP4.out.mono ?_; rintro e X9 ⟨rfl, S9, L9, e9, c9, b9, h9⟩)
  have hno : ∀ k, X5.heap.size ≤ k → ¬ S5 k := fun k hk hs => absurd (hz5 k hs) (by omega)
  have r9 := b9.row (hno _ z7) r8
  have ow9 := ow8.bp b9 (fun g hg => hno g (ow8.lt g hg).1)
  have hq9 : ¬ S9 q7 := fun hs => by
    rcases h9 _ hs with h | h
    · exact hno _ z7 h
    · have := r8.lt; omega
  have hv9 : ∀ g, (Value.slice bo6 1 k6).ownBlock = some g → ¬ S9 g := fun g hg hs => by
    have := ow8.lt g hg
    rcases h9 _ hs with h | h
    · exact hno _ this.1 h
    · omega
  clear HP4 b9 h9 r8 ow8 hno
  have HST := hid1 (cw_stats c9)
  have HC9 := hid1 c9
  clear c9
  go_upto_region 10 with (go_at_call 15; refine HST.out.mono ?_; rintro e X10 ⟨rfl, c10, b10⟩)
  have r10 := b10.row hq9 r9
  have ow10 := ow9.bp b10 hv9
  have s0 := r10.cell (i := 0) (by omega)
  have s1 := r10.cell (i := 1) (by omega)
  obtain ⟨_, _, ev, -, nm10, -⟩ := ow10.nm
  injection ev with ev1 ev0 ev2
  clear ev0
  subst ev1 ev2
  dsimp only [rf] at s0 s1
  clear HST r9 ow9
  have al11 : Below X10.heap.size X10 (X10.alloc (.cells #[.int .i64 7] 2)) := bl_alloc (Below.refl _ X10) _
  have hn11 : Nm (X10.alloc (.cells #[.int .i64 7] 2)) (some ⟨X10.heap.size, 0, none⟩) [7] := fun j x hj => by
    rcases j with _ | j
    · simp at hj; subst hj
      exact ⟨_, _, rfl, new_cell X10 (.int .i64 7) 2⟩
    · simp at hj
  have HRS := hid1 (results_any bo6 (some ⟨X10.heap.size, 0, none⟩) [7] [7] k6 1 1 1 _ (by decide) (nm10.below al11) hn11)
  rw [decide_eq_true rfl, decide_eq_true rfl, Bool.true_and] at HRS
  have HC10 := hid1 (c10.below al11)
  clear c10 b10 nm10 r10 ow10 hn11
  have HE9 := hid1 e9
  clear hz5 hq9 hv9 z7 e2 e4 e5 e6 e9 HC9
  go_wp2_with (go_at_call 17; refine HRS.out.mono ?_; rintro e X11 ⟨rfl, b11⟩)
  have HK := hid1 (cw_keys (HC10.out.below b11))
  clear HRS b11 HC10
  refine HK.out.mono ?_
  rintro e X12 ⟨v12, ss12, rfl, hk12, c12, b12⟩
  clear HK
  rw [HE9.out, f5] at hk12
  obtain ⟨o12, cp12, rfl, kd12⟩ := hk12.kd
  clear hk12
  have hHL : Hid (Calls Try.prog 20 #[.slice o12 2 cp12, .slice (some ⟨X12.heap.size + 1 + 1, 0, none⟩) 2 2] (((X12.alloc (.cells #[.int .u8 97, .int .u8 98] 5)).alloc (.cells #[.int .u8 97] 5)).alloc (.cells #[.slice (some ⟨X12.heap.size, 0, none⟩) 2 2, .slice (some ⟨X12.heap.size + 1, 0, none⟩) 1 1] 28)) (fun e w' => e = .returned (.bool true) ∧ Below w.heap.size w w')) := by
    have al : Below X12.heap.size X12 (((X12.alloc (.cells #[.int .u8 97, .int .u8 98] 5)).alloc (.cells #[.int .u8 97] 5)).alloc (.cells #[.slice (some ⟨X12.heap.size, 0, none⟩) 2 2, .slice (some ⟨X12.heap.size + 1, 0, none⟩) 1 1] 28)) := bl_alloc (bl_alloc (bl_alloc (Below.refl _ _) _) _) _
    have b0 := c12.bel.trans (al.mono c12.bel.size)
    refine hid1 ((lkeys_any o12 (some ⟨X12.heap.size + 1 + 1, 0, none⟩) [kAB, kA] [kAB, kA] cp12 2 _ (by decide) (kd12.below al) (lit_keys X12)).mono ?_)
    rintro e w' ⟨rfl, hq⟩
    exact ⟨by rw [decide_eq_true rfl], hq.below b0⟩
  clear kd12 c12 b12 HE9
  go_wp2_with (go_at_call 20; refine hHL.out.mono ?_; rintro e X13 ⟨rfl, b13⟩)
  go_ret
  exact ⟨rfl, b13⟩
end Go.Proofs.Ytpjcpikafpnmpaa
