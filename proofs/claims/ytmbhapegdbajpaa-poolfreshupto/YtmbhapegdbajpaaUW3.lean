/- PACKAGE pool: given, pooled, Max, Min. -/
import Derived.Test.YtmbhapegdbajpaaUW2
import Derived.Test.YtmbhapegdbajpaaUM2
namespace Go.Proofs.Ytmbhapegdbajpaa
open Go.RowKit Go.Shelf

theorem given_start (w : World) (h v c : Int) (ao : Option Addr) (m cap : Nat) (r s sy sx t l b q : Int) : ∃ W, ((w.alloc (.cells #[.int .i64 h, .int .i64 v, .int .i64 c, .slice ao m cap] 35)).alloc (.cells #[.int .i64 r, .int .i64 s, .int .i64 sy, .int .i64 sx, .int .i64 t, .int .i64 l, .int .i64 b, .int .i64 q] 24)).alloc (.cells #[.int .i64 0, .int .i64 0, .int .i64 0] 32) = W ∧ W.heap.size = w.heap.size + 3 ∧ Below w.heap.size w W ∧
    W.rowIs w.heap.size 35 4 (cf h v c ao m cap) ∧ Sg.Wn W (w.heap.size + 1) 0 r s sy sx t l b q ∧ W.rowIs (w.heap.size + 2) 32 3 (hf 0 0 0) := by
  refine ⟨_, rfl, by simp, bl_alloc (bl_alloc (bl_alloc (Below.refl _ _) _) _) _, ((cu_new w _ _ _ _ _ _ _).alloc _).alloc _, ?_, ?_⟩
  · have := Sg.wn_new (w.alloc (.cells #[.int .i64 h, .int .i64 v, .int .i64 c, .slice ao m cap] 35)) r s sy sx t l b q 24
    rw [World.size_alloc] at this
    exact this.keep (bl_alloc (Below.refl _ _) _)
  · have := hf_new ((w.alloc (.cells #[.int .i64 h, .int .i64 v, .int .i64 c, .slice ao m cap] 35)).alloc (.cells #[.int .i64 r, .int .i64 s, .int .i64 sy, .int .i64 sx, .int .i64 t, .int .i64 l, .int .i64 b, .int .i64 q] 24)) 0 0 0 32
    rw [World.size_alloc, World.size_alloc] at this
    exact this
theorem cuk_zeroU {h v c : Int} {m N : Nat} (k : cuk h v c m N = 0) : ∃ H V C : Nat, h = H ∧ v = V ∧ c = C ∧ (1 ≤ H ∧ H ≤ 4096) ∧ (1 ≤ V ∧ V ≤ 4096) ∧ (1 ≤ C ∧ C ≤ 4096) ∧ H * V * C ≤ 16777216 ∧ Sg.chk H V C = 0 ∧ m = H * V * nw C ∧ Pok (H * V) C N := by
  unfold cuk at k
  by_cases k0 : Sg.chk h v c = 0
  · obtain ⟨H, V, C, rfl, rfl, rfl, hH, hV, hC, hb⟩ := chk_nat k0
    rw [if_pos k0, Int.toNat_natCast, Int.toNat_natCast, Int.toNat_natCast] at k
    by_cases k1 : m = H * V * nw C
    · rw [if_pos k1] at k
      by_cases k2 : Pok (H * V) C N
      · exact ⟨H, V, C, rfl, rfl, rfl, hH, hV, hC, hb, k0, k1, k2⟩
      · rw [if_neg k2] at k; omega
    · rw [if_neg k1] at k; omega
  · rw [if_neg k0] at k; exact absurd k k0
theorem max4 (t l b q : Int) : ∃ mm : Int, (∀ (ts : Array TypeId) (ty : TypeId) (W : World), (Builtin.max_ ts ty #[.int .i64 t, .int .i64 l, .int .i64 b, .int .i64 q]).run Try.prog W = .ok (.int .i64 mm) W) ∧ (0 < mm ↔ 0 < t ∨ 0 < l ∨ 0 < b ∨ 0 < q) := by
  refine ⟨if q > (if b > (if l > t then l else t) then b else (if l > t then l else t)) then q else (if b > (if l > t then l else t) then b else (if l > t then l else t)), fun ts ty W => by simp [Builtin.max_, Builtin.max2], ?_⟩
  split <;> split <;> split <;> omega
/-- What given tells. -/
def poE (h v c : Int) (m N : Nat) (r s sy sx t l b q : Int) : Int :=
  if cuk h v c m N ≠ 0 then cuk h v c m N else if ¬ Sg.WOk r s sy sx t l b q ∨ 0 < t ∨ 0 < l ∨ 0 < b ∨ 0 < q then 56 else Sg.slE h v c r s sy sx t l b q c
def poV (h v c : Int) (m N : Nat) (r s sy sx t l b q : Int) : Value :=
  if poE h v c m N r s sy sx t l b q = 0 then Sg.sle (Sg.stN h t b r sy) (Sg.stN v l q s sx) c 0 else Sg.sle 0 0 0 (poE h v c m N r s sy sx t l b q)
set_option maxHeartbeats 3200000 in
set_option maxRecDepth 100000 in
theorem given_any (h v c : Int) (ao : Option Addr) (m cap N : Nat) (r s sy sx t l b q : Int) (w : World) (hmc : m ≤ cap) (hcap : cap ≤ 9223372036854775807) (rd : Wr w ao m N) :
    Calls Try.prog 21 #[cuv h v c ao m cap, Sg.win r s sy sx t l b q] w fun e w' => e = .returned (poV h v c m N r s sy sx t l b q) ∧ Below w.heap.size w w' := by
  have HC := hid1 (fun W r' => ccheck_any h v c ao m cap N W hmc hcap r')
  have HW := hid1 (fun W => Sg.window_any r s sy sx t l b q W)
  have HS := hid1 (fun W => Sg.slide_any h v c r s sy sx t l b q c W)
  have RD := hid1 rd
  clear rd
  obtain ⟨ans, hans⟩ : ∃ ans, poV h v c m N r s sy sx t l b q = ans := ⟨_, rfl⟩
  rw [hans]
  have HANS := hid1 hans
  clear hans
  have HST := hid1 (given_start w h v c ao m cap r s sy sx t l b q)
  by_cases k1 : cuk h v c m N = 0
  · rw [k1] at HC
    by_cases k2 : Sg.WOk r s sy sx t l b q
    · have e2 : Sg.wiE r s sy sx t l b q = 0 := by unfold Sg.wiE; rw [if_pos k2]
      rw [e2] at HW
      obtain ⟨⟨_, _, ht, hb0⟩, ⟨_, _, hl, hq0⟩⟩ := id k2
      obtain ⟨mm, hmm, hm0⟩ := max4 t l b q
      by_cases k3 : 0 < t ∨ 0 < l ∨ 0 < b ∨ 0 < q
      · have ea : poE h v c m N r s sy sx t l b q = 56 := by
          unfold poE; rw [if_neg (fun x => x k1), if_pos (.inr k3)]
        have eb : poV h v c m N r s sy sx t l b q = Sg.sle 0 0 0 56 := by unfold poV; rw [ea, if_neg (by decide)]
        rw [eb] at HANS
        go_enter Try.func21, Try.ntmps21
        go_wp2_with fail
        refine gen_calls (fun W => W.heap.size = w.heap.size + 3 ∧ Below w.heap.size w W ∧ W.rowIs w.heap.size 35 4 (cf h v c ao m cap) ∧ Sg.Wn W (w.heap.size + 1) 0 r s sy sx t l b q ∧ W.rowIs (w.heap.size + 2) 32 3 (hf 0 0 0)) (by obtain ⟨X, rfl, z⟩ := HST.out; exact z) ?_
        rintro W ⟨z0, B0, b0, b1, b2⟩
        refine (HC.out W (RD.out.below B0)).mono ?_
        rintro e w1 ⟨rfl, hb⟩
        replace b0 := keepr hb b0
        replace b1 := b1.keep hb
        replace b2 := keepr hb b2
        have B1 := bl_step B0 hb
        clear hb B0
        have b1' := b1
        obtain ⟨n0, n1, n2, n3, n4, n5, n6, n7⟩ := b1'
        simp only [Nat.zero_add] at n1 n2 n3 n4 n5 n6 n7
        go_wp2_with fail
        refine (HW.out w1).mono ?_
        rintro e w2 ⟨rfl, hb⟩
        replace b0 := keepr hb b0
        replace b1 := b1.keep hb
        replace b2 := keepr hb b2
        have B2 := bl_step B1 hb
        clear hb B1 n0 n1 n2 n3 n4 n5 n6 n7
        have f0 := b2.frozen 0
        have f1 := b2.frozen 1
        have f2 := b2.frozen 2
        have d0 := hf0 b2
        have d1 := hf1 b2
        have d2 := hf2 b2
        have b1' := b1
        obtain ⟨-, -, -, -, n4, n5, n6, n7⟩ := b1'
        simp only [Nat.zero_add] at n4 n5 n6 n7
        have m1 := hm0.2 k3
        clear hm0
        go_wp2_with fail
        exact bodyPost_ret (v := Sg.sle 0 0 0 56) (by simp [results, Try.results21, go_sem, d0, d1, d2]) rfl ⟨by rw [← HANS.out], bl_set (bl_set (bl_set B2 (by omega) _) (by omega) _) (by omega) _⟩
      · have k3 := k3
        obtain rfl : t = 0 := by omega
        obtain rfl : l = 0 := by omega
        obtain rfl : b = 0 := by omega
        obtain rfl : q = 0 := by omega
        have ea : poE h v c m N r s sy sx 0 0 0 0 = Sg.slE h v c r s sy sx 0 0 0 0 c := by
          unfold poE; rw [if_neg (fun x => x k1), if_neg (fun x => x.elim (fun x => x k2) (by omega))]
        have eb : Sg.slV h v c r s sy sx 0 0 0 0 c = ans := by
          rw [← HANS.out]; unfold poV Sg.slV; rw [ea]
        go_enter Try.func21, Try.ntmps21
        go_wp2_with fail
        refine gen_calls (fun W => W.heap.size = w.heap.size + 3 ∧ Below w.heap.size w W ∧ W.rowIs w.heap.size 35 4 (cf h v c ao m cap) ∧ Sg.Wn W (w.heap.size + 1) 0 r s sy sx 0 0 0 0 ∧ W.rowIs (w.heap.size + 2) 32 3 (hf 0 0 0)) (by obtain ⟨X, rfl, z⟩ := HST.out; exact z) ?_
        rintro W ⟨z0, B0, b0, b1, b2⟩
        refine (HC.out W (RD.out.below B0)).mono ?_
        rintro e w1 ⟨rfl, hb⟩
        replace b0 := keepr hb b0
        replace b1 := b1.keep hb
        replace b2 := keepr hb b2
        have B1 := bl_step B0 hb
        clear hb B0
        have b1' := b1
        obtain ⟨n0, n1, n2, n3, n4, n5, n6, n7⟩ := b1'
        simp only [Nat.zero_add] at n1 n2 n3 n4 n5 n6 n7
        go_wp2_with fail
        refine (HW.out w1).mono ?_
        rintro e w2 ⟨rfl, hb⟩
        replace b0 := keepr hb b0
        replace b1 := b1.keep hb
        replace b2 := keepr hb b2
        have B2 := bl_step B1 hb
        clear hb B1 n0 n1 n2 n3 n4 n5 n6 n7
        have f0 := b2.frozen 0
        have f1 := b2.frozen 1
        have f2 := b2.frozen 2
        have d0 := hf0 b2
        have d1 := hf1 b2
        have d2 := hf2 b2
        have b1' := b1
        obtain ⟨n0, n1, n2, n3, n4, n5, n6, n7⟩ := b1'
        simp only [Nat.zero_add] at n1 n2 n3 n4 n5 n6 n7
        have c0 := cf0 b0
        have c1 := cf1 b0
        have c2 := cf2 b0
        have m1 : ¬ 0 < mm := fun x => k3 (hm0.1 x)
        clear hm0
        obtain ⟨a1, a2, a3, a4, hsv⟩ : ∃ a1 a2 a3 a4 : Int, Sg.slV h v c r s sy sx 0 0 0 0 c = Sg.sle a1 a2 a3 a4 := by
          unfold Sg.slV; split <;> exact ⟨_, _, _, _, rfl⟩
        rw [hsv] at HS eb
        clear hsv
        subst eb
        go_wp2_with fail
        refine (HS.out w2).mono ?_
        rintro e w3 ⟨rfl, hb⟩
        replace b2 := keepr hb b2
        have B3 := bl_step B2 hb
        clear hb B2 n0 n1 n2 n3 n4 n5 n6 n7 c0 c1 c2 f0 f1 f2 d0 d1 d2
        have f0 := b2.frozen 0
        have f1 := b2.frozen 1
        have f2 := b2.frozen 2
        have d0 := hf0 b2
        have d1 := hf1 b2
        have d2 := hf2 b2
        go_wp2_with fail
        exact bodyPost_ret (v := Sg.sle a1 a2 a3 a4) (by simp [results, Try.results21, go_sem, d0, d1, d2]) rfl ⟨rfl, bl_set (bl_set (bl_set B3 (by omega) _) (by omega) _) (by omega) _⟩
    · have e2 : Sg.wiE r s sy sx t l b q = 56 := by unfold Sg.wiE; rw [if_neg k2]
      rw [e2] at HW
      have ea : poE h v c m N r s sy sx t l b q = 56 := by
        unfold poE; rw [if_neg (fun x => x k1), if_pos (.inl k2)]
      have eb : poV h v c m N r s sy sx t l b q = Sg.sle 0 0 0 56 := by unfold poV; rw [ea, if_neg (by decide)]
      rw [eb] at HANS
      go_enter Try.func21, Try.ntmps21
      go_wp2_with fail
      refine gen_calls (fun W => W.heap.size = w.heap.size + 3 ∧ Below w.heap.size w W ∧ W.rowIs w.heap.size 35 4 (cf h v c ao m cap) ∧ Sg.Wn W (w.heap.size + 1) 0 r s sy sx t l b q ∧ W.rowIs (w.heap.size + 2) 32 3 (hf 0 0 0)) (by obtain ⟨X, rfl, z⟩ := HST.out; exact z) ?_
      rintro W ⟨z0, B0, b0, b1, b2⟩
      refine (HC.out W (RD.out.below B0)).mono ?_
      rintro e w1 ⟨rfl, hb⟩
      replace b0 := keepr hb b0
      replace b1 := b1.keep hb
      replace b2 := keepr hb b2
      have B1 := bl_step B0 hb
      clear hb B0
      have b1' := b1
      obtain ⟨n0, n1, n2, n3, n4, n5, n6, n7⟩ := b1'
      simp only [Nat.zero_add] at n1 n2 n3 n4 n5 n6 n7
      go_wp2_with fail
      refine (HW.out w1).mono ?_
      rintro e w2 ⟨rfl, hb⟩
      replace b0 := keepr hb b0
      replace b1 := b1.keep hb
      replace b2 := keepr hb b2
      have B2 := bl_step B1 hb
      clear hb B1 n0 n1 n2 n3 n4 n5 n6 n7
      have f0 := b2.frozen 0
      have f1 := b2.frozen 1
      have f2 := b2.frozen 2
      have d0 := hf0 b2
      have d1 := hf1 b2
      have d2 := hf2 b2
      go_wp2_with fail
      exact bodyPost_ret (v := Sg.sle 0 0 0 56) (by simp [results, Try.results21, go_sem, d0, d1, d2]) rfl ⟨by rw [← HANS.out], bl_set (bl_set (bl_set B2 (by omega) _) (by omega) _) (by omega) _⟩
  · have ea : poE h v c m N r s sy sx t l b q = cuk h v c m N := by
        unfold poE; rw [if_pos k1]
    have eb : poV h v c m N r s sy sx t l b q = Sg.sle 0 0 0 (cuk h v c m N) := by unfold poV; rw [ea, if_neg k1]
    rw [eb] at HANS
    generalize cuk h v c m N = EE at *
    clear ea eb
    go_enter Try.func21, Try.ntmps21
    go_wp2_with fail
    refine gen_calls (fun W => W.heap.size = w.heap.size + 3 ∧ Below w.heap.size w W ∧ W.rowIs w.heap.size 35 4 (cf h v c ao m cap) ∧ Sg.Wn W (w.heap.size + 1) 0 r s sy sx t l b q ∧ W.rowIs (w.heap.size + 2) 32 3 (hf 0 0 0)) (by obtain ⟨X, rfl, z⟩ := HST.out; exact z) ?_
    rintro W ⟨z0, B0, b0, b1, b2⟩
    refine (HC.out W (RD.out.below B0)).mono ?_
    rintro e w1 ⟨rfl, hb⟩
    replace b0 := keepr hb b0
    replace b1 := b1.keep hb
    replace b2 := keepr hb b2
    have B1 := bl_step B0 hb
    clear hb B0
    have f0 := b2.frozen 0
    have f1 := b2.frozen 1
    have f2 := b2.frozen 2
    have d0 := hf0 b2
    have d1 := hf1 b2
    have d2 := hf2 b2
    go_wp2_with fail
    exact bodyPost_ret (v := Sg.sle 0 0 0 EE) (by simp [results, Try.results21, go_sem, d0, d1, d2]) rfl ⟨by rw [← HANS.out], bl_set (bl_set (bl_set B1 (by omega) _) (by omega) _) (by omega) _⟩
end Go.Proofs.Ytmbhapegdbajpaa
