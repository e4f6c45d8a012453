/- CACHE: Put of a new key. -/
import Derived.Test.YtpjcpikafpnmpaaAK11
namespace Go.Proofs.Ytpjcpikafpnmpaa
open Go.RowKit Go.MuLone

theorem Pm.step {S : Nat → Prop} {w X Y : World} {p : Nat} {rm mu : Int} {bm : Nat} {h m : Int} {L L' : List Ce} {g : Nat} {v : Value} {l : List Int} {a : Int} (P : Pm S w X p rm mu bm h m L g v l a) (hS : ∀ k, S k → k < w.heap.size) (b : BP S X Y) (c : Ch Y S p rm mu bm h m L') : Pm S w Y p rm mu bm h m L' g v l a := by
  have hno : ∀ k, w.heap.size ≤ k → ¬ S k := fun k hk hs => absurd (hS k hs) (by omega)
  exact ⟨c, b.row (hno g P.low) P.row, P.ow.bp b fun k hk => hno k (P.ow.lt k hk).1, P.bp.trans b (fun _ _ h => h), P.low⟩
theorem len_qt {w : World} {bm : Nat} {L : List Ce} (h : Mp w bm L) (ty : TypeId) (n : Nat) : (Builtin.len_ #[70] ty #[.map (some bm)]).run Try.prog (w.drewN n) = .ok (.int .i64 L.length) (w.drewN n) := h.len ty _ (by rw [heap_drewN])
theorem ef_new (w : World) (k : ByteArray) (v : Value) (l : List Int) (a : Int) : (w.alloc (.cells #[.string k, v, .int .i64 a, .pointer none, .pointer none] 81)).rowIs w.heap.size 81 5 (ef ⟨w.heap.size, k, v, l, a⟩ none none) :=
  World.rowIs_alloc w #[.string k, v, .int .i64 a, .pointer none, .pointer none] _ _ (fun i hi => by rcases i with _ | _ | _ | _ | _ | i <;> first | rfl | (simp at hi; omega))
/-- The last step of Put: the new entry laid and put in. -/
theorem pm_add {S : Nat → Prop} {w X : World} {p : Nat} {rm mu : Int} {bm : Nat} {h m : Int} {L : List Ce} {g : Nat} {v : Value} {l : List Int} {a : Int} {s : ByteArray} (P : Pm S w X p rm mu bm h m L g v l a) (hM : l.length * 8 ≤ 140737488355328) (hz : s.size ≤ 65536) (hn : ∀ y ∈ L, y.k ≠ s) (hl : (L.length : Int) + 1 ≤ rm) :
    Calls Try.prog 33 #[.pointer (some ⟨p, 0, none⟩), .pointer (some ⟨X.heap.size, 0, none⟩)] (X.alloc (.cells #[.string s, v, .int .i64 a, .pointer none, .pointer none] 81)) fun e w' => e = .returned (.tuple #[]) ∧
      Ch w' (fun k => S k ∨ (w.heap.size ≤ k ∧ k < X.heap.size + 1)) p rm mu bm h m (⟨X.heap.size, s, v, l, a⟩ :: L) ∧ BP S w w' ∧ w'.heap.size = X.heap.size + 1 := by
  have b0 : Below X.heap.size X (X.alloc (.cells #[.string s, v, .int .i64 a, .pointer none, .pointer none] 81)) := bl_alloc (Below.refl _ _) _
  have c0 := (P.ch.below b0).more (S' := fun k => S k ∨ (w.heap.size ≤ k ∧ k < X.heap.size + 1)) (fun _ h => .inl h)
  have hw := P.bp.size
  refine (add_any _ p L ⟨X.heap.size, s, v, l, a⟩ none none _ c0 (ef_new X s v l a) (fun y hy e => ?_) hn ((P.ow.base (Nat.zero_le _)).alloc _) ⟨hz, hM⟩ ⟨.inr ⟨hw, Nat.lt_succ_self _⟩, fun g' hg' => ?_⟩ hl).mono ?_
  · obtain ⟨_, _, r⟩ := P.ch.rw.seg.at y hy
    have h1 := r.lt
    have h2 : y.b = X.heap.size := e
    omega
  · have := P.ow.lt g' hg'
    exact .inr ⟨this.1, by omega⟩
  · rintro e w' ⟨rfl, c1, b1, z1⟩
    refine ⟨rfl, c1, (P.bp.step b0).trans b1 ?_, by rw [z1]; simp⟩
    rintro k hk (h | h)
    · exact h
    · omega
set_option maxHeartbeats 1600000 in
set_option maxRecDepth 100000 in
theorem put_miss (S : Nat → Prop) (p : Nat) {rm : Int} {bm : Nat} {h m : Int} (L : List Ce) (w : World) (c : Ch w S p rm 0 bm h m L) (ao : Option Addr) (cap : Nat) (s : ByteArray) (hs : Bs w ao s) (hd : Bo S ao s) (hz : s.size ≤ 65536) (hn : ∀ y ∈ L, y.k ≠ s) (hS : ∀ k, S k → k < w.heap.size)
    (ro : Option Addr) (rc : Nat) (l : List Int) (a : Int) (hrc : ro = none → rc = 0) (hr : Nm w ro l) (hM : l.length * 8 ≤ 140737488355328) :
    Calls Try.prog 11 #[.pointer (some ⟨p, 0, none⟩), .slice ao s.size cap, rsv (.slice ro l.length rc) a] w fun e w' => e = .returned (.int .i64 0) ∧ ∃ b v L', (L' = L ∧ (L.length : Int) < rm ∨ (L.length : Int) = rm ∧ L' = L.dropLast) ∧ Ch w' (grown S w w') p rm 0 bm h m (⟨b, s, v, l, a⟩ :: L') ∧ BP S w w' := by
  have hk1 : ¬ (65536 : Int) < (s.size : Int) := by omega
  have HC := hid1 c
  have HSI := hid1 hS
  have HS := hid1 hs
  have HNK := hid1 hn
  have hr1 : Nm (w.alloc (.cells #[.slice ro l.length rc, .int .i64 a] 31)) ro l := hr.below (bl_alloc (Below.refl _ _) _)
  have HO := hid1 (own_any ro rc l a _ hrc hr1 hM)
  have HM := hid1 hM
  have r0 := rf_new w (.slice ro l.length rc) a
  have e0 := r0.cell (i := 0) (by omega)
  have e1 := r0.cell (i := 1) (by omega)
  dsimp only [rf] at e0 e1
  clear hr hr1 hrc hM hs c r0 hn hS
  obtain ⟨n, hn⟩ : ∃ n, l.length = n := ⟨_, rfl⟩
  rw [hn] at HO e0 e1
  have HN := hid1 hn
  rw [hn]
  clear hn
  obtain ⟨sz, hsz⟩ : ∃ sz, s.size = sz := ⟨_, rfl⟩
  have HSZ := hid1 hsz
  rw [hsz] at hk1 hz ⊢
  clear hsz
  go_enter_defers Try.func11, Try.ntmps11
  go_upto_region 4 with (go_at_call 31; refine HO.out.mono ?_; rintro e w1 ⟨v, rfl, ow, hb1⟩; have HOW := hid1 ow; obtain ⟨bo, K, ev, -, -, -⟩ := ow.nm; rw [HN.out] at ev; subst ev; clear ow)
  have P0 : Pm S w (w1.alloc (.cells #[.slice bo n K, .int .i64 a] 31)) p rm 0 bm h m L w1.heap.size (.slice bo n K) l a := pm_start HC.out (bl_alloc (Below.refl _ _) _) hb1 HOW.out
  clear hb1 HOW e0 e1 HO
  generalize w1.alloc (.cells #[.slice bo n K, .int .i64 a] 31) = X0 at *
  generalize w1.heap.size = g at *
  have c1 := P0.ch.rw.box.cell (i := 1) (by omega)
  have f1 := P0.ch.rw.box.frozen 1
  have P1 := P0.lock 1
  dsimp only [cf] at c1
  clear P0
  go_wp2_with (go_at_call 27; refine (lock_free muLib ⟨p, 1, none⟩ _ c1 f1).mono ?_; rintro e w' ⟨rfl, rfl⟩; generalize hw : X0.setCell ⟨p, 1, none⟩ (.int .i32 1) = X1 at *; clear c1 f1 hw)
  have hs1 : Bs X1 ao s := HS.out.bp P1.bp hd
  have hcv := conv_qt (cap := cap) hs1
  have hlk := miss_qt P1.ch.mp HNK.out (by rw [HSZ.out]; omega)
  rw [HSZ.out] at hcv
  have p3 := P1.ch.rw.box.cell (i := 3) (by omega)
  dsimp only [cf] at p3
  have HP1 := hid1 P1
  clear P1
  go_quiet (fail)
  have P2 := HP1.out.qt (⟨nq, rfl⟩ : Qt X1 (X1.drewN nq))
  clear hcv hlk p3 HP1 hs1
  generalize X1.drewN nq = X2 at *
  go_upto_region 11 with fail
  obtain ⟨N, hN⟩ : ∃ N, L.length = N := ⟨_, rfl⟩
  have hln := len_qt P2.ch.mp
  rw [hN] at hln
  have p3 := P2.ch.rw.box.cell (i := 3) (by omega)
  have p0 := P2.ch.rw.box.cell (i := 0) (by omega)
  have hrom := P2.ch.rom
  rw [hN] at hrom
  dsimp only [cf] at p3 p0
  have HP2 := hid1 P2
  have HLN := hid1 hN
  clear P2 hN
  go_quiet (fail)
  have P3 := HP2.out.qt (⟨nq, rfl⟩ : Qt X2 (X2.drewN nq))
  clear hln p3 p0 HP2
  generalize X2.drewN nq = X3 at *
  by_cases hfull : (N : Int) = rm
  · rcases snoc_cases L with rfl | ⟨L', y, rfl⟩
    · have := HLN.out; simp at this; omega
    have p5 := P3.ch.rw.box.cell (i := 5) (by omega)
    dsimp only [cf] at p5
    rw [lt_snoc] at p5
    dsimp only [ptr, Option.map_some] at p5
    have HL := hid1 (letGo_any S p L' [] y X3 P3.ch)
    have HP3 := hid1 P3
    clear P3
    go_upto_region 13 with (go_at_call 32; refine HL.out.mono ?_; rintro e X4 ⟨rfl, c4, -, b4, z4⟩)
    rw [List.append_nil] at c4
    have P4 := HP3.out.step HSI.out b4 c4
    have hlen : (L'.length : Int) + 1 ≤ rm := by have := HLN.out; simp at this; omega
    have HF : Hid ((((L' ++ [y]).length : Nat) : Int) = rm) := by rw [HLN.out]; exact hfull
    clear p5 HL HP3 c4 b4 z4
    have hs5 : Bs X4 ao s := HS.out.bp P4.bp hd
    have hcv := conv_str (cap := cap) hs5
    rw [HSZ.out] at hcv
    have q0 := P4.row.cell (i := 0) (by omega)
    have q1 := P4.row.cell (i := 1) (by omega)
    dsimp only [rf] at q0 q1
    have HA := hid1 (pm_add (s := s) P4 HM.out (by rw [HSZ.out]; exact hz) (fun u hu => HNK.out u (by simp [hu])) hlen)
    have HZ := hid1 P4.bp.size
    clear P4 hs5
    go_wp2_with fail
    refine HA.out.mono ?_
    rintro e X9 ⟨rfl, c9, b9, z9⟩
    go_wp2_with fail
    refine door (.int .i64 0) (c9.rw.box.cell (i := 1) (by omega)) (c9.rw.box.frozen 1) (by simp [results, Try.results11, go_sem]) ⟨rfl, _, .slice bo n K, _, .inr ⟨HF.out, by simp⟩, (c9.lock 0).more ?_, b9.setA (a := ⟨p, 1, none⟩) (HC.out.sp) _⟩
    rintro k (h | h)
    · exact .inl h
    · exact .inr ⟨h.1, by simpa [z9] using h.2⟩
  · have hlen : (L.length : Int) + 1 ≤ rm := by have := HLN.out; omega
    have HF : Hid ((L.length : Int) < rm) := by have := HLN.out; show (L.length : Int) < rm; omega
    go_upto_region 13 with fail
    have hs5 : Bs X3 ao s := HS.out.bp P3.bp hd
    have hcv := conv_str (cap := cap) hs5
    rw [HSZ.out] at hcv
    have q0 := P3.row.cell (i := 0) (by omega)
    have q1 := P3.row.cell (i := 1) (by omega)
    dsimp only [rf] at q0 q1
    have HA := hid1 (pm_add (s := s) P3 HM.out (by rw [HSZ.out]; exact hz) HNK.out hlen)
    have HZ := hid1 P3.bp.size
    clear P3 hs5
    go_wp2_with fail
    refine HA.out.mono ?_
    rintro e X9 ⟨rfl, c9, b9, z9⟩
    go_wp2_with fail
    refine door (.int .i64 0) (c9.rw.box.cell (i := 1) (by omega)) (c9.rw.box.frozen 1) (by simp [results, Try.results11, go_sem]) ⟨rfl, _, .slice bo n K, _, .inl ⟨rfl, HF.out⟩, (c9.lock 0).more ?_, b9.setA (a := ⟨p, 1, none⟩) (HC.out.sp) _⟩
    rintro k (h | h)
    · exact .inl h
    · exact .inr ⟨h.1, by simpa [z9] using h.2⟩
end Go.Proofs.Ytpjcpikafpnmpaa
