/- PACKAGE gemm: tally, sum, within, firstLen, oddOne, fault. -/
import Derived.Test.YtakoicolffkbmaaDW2
namespace Go.Proofs.Ytakoicolffkbmaa
open Go.RowKit

/-- The kernel as a value. -/
abbrev kfn : Value := .func (.func 31) #[] #[]
theorem gtally_any (a c b d : Nat) (ha : a < 18446744073709551616) (hc : c < 18446744073709551616) (hb : b < 18446744073709551616) (hd : d < 18446744073709551616) (w : World) :
    Calls Try.prog 31 #[.int .u64 a, .int .u64 c, .int .u64 b, .int .u64 d] w fun e w' => e = .returned (.int .i64 (tq (c &&& d) a b 64)) ∧ w' = w := by
  have HC := and_u64 c d hc hd
  have hcd : c &&& d < 18446744073709551616 := and_lt64 hc
  generalize c &&& d = C at *
  have HX := xor_u64 a b ha hb
  have hx := xor_lt64 ha hb
  have HA := andNot_u64 C (a ^^^ b) hcd hx
  have HP := hid1 (agr_pc (c := C) ha hb)
  have hg := agr_lt hcd a b
  unfold agr at hg HP
  generalize hG : C &&& (18446744073709551615 - (a ^^^ b)) = G at *
  have p1 := pc_le G 64
  have p2 := pc_le C 64
  clear hG
  go_enter Try.func31, Try.ntmps31
  go_wp2_with fail
  refine (ones_any G hg _).mono ?_
  rintro e w' ⟨rfl, rfl⟩
  go_wp2_with fail
  refine (ones_any C hcd _).mono ?_
  rintro e w' ⟨rfl, rfl⟩
  go_wp2_with fail
  go_ret
  exact ⟨ret_int HP.out, rfl⟩

/-- What the words from one up to another give. -/
def sq (A B C D : Bt) (k : Nat) : Int := tq (B.N &&& D.N) A.N C.N (64 * k)
theorem sq_word (A B C D : Bt) (k : Nat) : sq A B C D (k + 1) = sq A B C D k + tq (wd B.N k &&& wd D.N k) (wd A.N k) (wd C.N k) 64 := by
  unfold sq; rw [tq_word, wd_and]
theorem sq_bd (A B C D : Bt) (k : Nat) : -(64 * (k : Int)) ≤ sq A B C D k ∧ sq A B C D k ≤ 64 * (k : Int) := by
  have := tq_bd (B.N &&& D.N) A.N C.N (64 * k); unfold sq; omega
theorem sq_zero (A B C D : Bt) : sq A B C D 0 = 0 := rfl

theorem qq_new (w : World) (A B C D : Bt) (t : TypeId) : ((w.alloc (.cells #[.int .i64 A.n, .slice A.ao A.m A.cap, .int .i64 B.n, .slice B.ao B.m B.cap] t)).alloc (.cells #[.int .i64 C.n, .slice C.ao C.m C.cap, .int .i64 D.n, .slice D.ao D.m D.cap] t)).rowIs (w.heap.size + 1) t 4 (qf C D) := by
  have := q_new (w.alloc (.cells #[.int .i64 A.n, .slice A.ao A.m A.cap, .int .i64 B.n, .slice B.ao B.m B.cap] t)) C D t
  simpa using this
set_option maxHeartbeats 1600000 in
set_option maxRecDepth 100000 in
theorem gsum_any (A B C D : Bt) (x y L : Nat) (w : World) (hA : Rw w A) (hB : Rw w B) (hC : Rw w C) (hD : Rw w D) (ea : A.m = L) (eb : B.m = L) (ec : C.m = L) (ed : D.m = L) (hL : L ≤ 262144) (hxy : x ≤ y) (hy : y ≤ L) :
    Calls Try.prog 30 #[rwv A B, rwv C D, .int .i64 x, .int .i64 y, kfn] w fun e w' => e = .returned (.int .i64 (sq A B C D y - sq A B C D x)) ∧ Below w.heap.size w w' := by
  have HA := hid1 hA
  have HB := hid1 hB
  have HC := hid1 hC
  have HD := hid1 hD
  have HS := hid1 (sq_word A B C D)
  have HV := hid1 (sq_bd A B C D)
  obtain ⟨f, hf⟩ : ∃ f, sq A B C D = f := ⟨_, rfl⟩
  rw [hf] at HS HV ⊢
  clear hf
  clear hA hB hC hD
  obtain ⟨an, aa, am, ac, AN⟩ := A
  obtain ⟨bn, ba, bm, bc, BN⟩ := B
  obtain ⟨cn, ca, cm, cc, CN⟩ := C
  obtain ⟨dn, da, dm, dc, DN⟩ := D
  dsimp only at *
  subst ea eb ec ed
  go_enter Try.func30, Try.ntmps30
  go_wp2_with fail
  go_loopw [11, 12] (fun s i wr => ∃ k : Nat, x ≤ k ∧ k ≤ y ∧ i = .int .i64 k ∧ s = .int .i64 (f k - f x) ∧ wr.rowIs w.heap.size 28 4 (qf ⟨an, aa, dm, ac, AN⟩ ⟨bn, ba, dm, bc, BN⟩) ∧ wr.rowIs (w.heap.size + 1) 28 4 (qf ⟨cn, ca, dm, cc, CN⟩ ⟨dn, da, dm, dc, DN⟩) ∧ Below w.heap.size w wr) (fun _ i _ => y - (intOf i).toNat)
  case atStart => exact ⟨x, Nat.le_refl _, hxy, rfl, by congr 1; omega, (q_new w ⟨an, aa, dm, ac, AN⟩ ⟨bn, ba, dm, bc, BN⟩ _).alloc _, qq_new w ⟨an, aa, dm, ac, AN⟩ ⟨bn, ba, dm, bc, BN⟩ ⟨cn, ca, dm, cc, CN⟩ ⟨dn, da, dm, dc, DN⟩ _, bl_alloc (bl_alloc (Below.refl _ _) _) _⟩
  case round =>
    obtain ⟨k, hxk, hk, rfl, rfl, r1, r2, B0⟩ := hrel
    by_cases hlt : k < y
    · have hkL : k < dm := by omega
      obtain ⟨g1, o1, rfl, d1⟩ := (HA.out.below B0).2.2 k hkL
      obtain ⟨g2, o2, rfl, d2⟩ := (HB.out.below B0).2.2 k hkL
      obtain ⟨g3, o3, rfl, d3⟩ := (HC.out.below B0).2.2 k hkL
      obtain ⟨g4, o4, rfl, d4⟩ := (HD.out.below B0).2.2 k hkL
      unfold wf at d1 d2 d3 d4
      dsimp only at d1 d2 d3 d4
      have c1 := q1 r1
      have c2 := q3 r1
      have c3 := q1 r2
      have c4 := q3 r2
      have ik : (k : Int) < (dm : Nat) := by omega
      have iky : (k : Int) < (y : Nat) := by omega
      have ik0 : (0 : Int) ≤ (k : Int) := by omega
      have HT := hid1 (gtally_any (wd AN k) (wd BN k) (wd CN k) (wd DN k) (wd_lt _ _) (wd_lt _ _) (wd_lt _ _) (wd_lt _ _))
      have HW := hid1 (HS.out k)
      have b1 := HV.out k
      have b0 := HV.out x
      have b2 := tq_bd (wd BN k &&& wd DN k) (wd AN k) (wd CN k) 64
      have H1 := hid1 r1
      have H2 := hid1 r2
      clear r1 r2
      generalize wd BN k = y1 at *
      generalize wd DN k = z at *
      generalize wd AN k = v at *
      generalize wd CN k = x1 at *
      generalize tq (y1 &&& z) v x1 64 = dt at *
      obtain ⟨fk, hfk⟩ : ∃ fk, f k = fk := ⟨_, rfl⟩
      obtain ⟨fx, hfx⟩ : ∃ fx, f x = fx := ⟨_, rfl⟩
      rw [hfk] at HW b1 ⊢
      rw [hfx] at b0 ⊢
      have HX := hid1 hfx
      clear hfk hfx
      go_wp2_with fail
      go_quiet ((go_at_call 31; refine (HT.out _).mono ?_; rintro e w5 ⟨rfl, rfl⟩; exact ⟨rfl, _, rfl⟩))
      go_wp2_with fail
      exact ⟨⟨k + 1, by omega, by omega, by go_num, by rw [HW.out]; congr 1; omega, row_drewN H1.out _, row_drewN H2.out _, bl_drewN B0 _⟩, by simp [intOf]; omega⟩
    · have hkN : k = y := by omega
      subst hkN
      go_wp2_with fail
      go_ret
      exact ⟨rfl, B0⟩
end Go.Proofs.Ytakoicolffkbmaa
