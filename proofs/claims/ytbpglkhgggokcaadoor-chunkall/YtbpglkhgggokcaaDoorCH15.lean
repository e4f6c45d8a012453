/- CHUNKALL: the loop. -/
import Derived.Test.YtbpglkhgggokcaaDoorCH14
namespace Go.Proofs.YtbpglkhgggokcaaDoor
open Go.RowKit

theorem Hi.bp {w w1 : World} {S T : Nat → Prop} {hb : Nat} (h : Hi w S hb) (hu : BP T w w1) (hT : ∀ b, S b → ¬ T b) : Hi w1 S hb := by
  obtain ⟨vb, ve, vl, vc, le, gi, ci, fs, hf⟩ := h
  exact ⟨vb, ve, vl, vc, le, gi, ci, fs, hf.bp hu hT⟩
theorem Hi.below {w w1 : World} {S : Nat → Prop} {hb : Nat} (h : Hi w S hb) (hu : Below w.heap.size w w1) : Hi w1 S hb := h.bp (T := fun _ => False) (BP.bel hu) fun _ _ h => h
theorem Hi.sub {w : World} {S T : Nat → Prop} {hb : Nat} (h : Hi w S hb) (hT : ∀ b, S b → b < w.heap.size → T b) : Hi w T hb := by
  obtain ⟨vb, ve, vl, vc, le, gi, ci, fs, hf⟩ := h
  exact ⟨vb, ve, vl, vc, le, gi, ci, fs, hf.sub hT⟩
theorem hi_new (w : World) (S : Nat → Prop) (h : S w.heap.size) : Hi (w.alloc (.cells #[.slice none 0 0, .slice none 0 0, .slice none 0 0, .slice none 0 0] 29)) S w.heap.size := by
  refine ⟨.slice none 0 0, .slice none 0 0, .slice none 0 0, .slice none 0 0, 0, fun _ => 0, fun _ => 0, fun _ _ => undef, ⟨⟨World.rowIs_alloc w _ _ _ (fun i hi => ?_), .inl rfl, ⟨.inl ⟨rfl, rfl⟩, fun j hj => absurd hj (by omega), fun j hj => absurd hj (by omega), fun j k hj => absurd hj (by omega)⟩, by omega, fun g e => by simp [Value.ownBlock] at e, h, fun g e => by simp [Value.ownBlock] at e, fun g e => by simp [Value.ownBlock] at e, fun j hj => absurd hj (by omega)⟩, .inl rfl, .inl rfl, fun g e => by simp [Value.ownBlock] at e, fun g e => by simp [Value.ownBlock] at e, fun g e => by simp [Value.ownBlock] at e⟩⟩
  rcases i with _ | _ | _ | _ | i
  all_goals first
    | rfl
    | (simp at hi; omega)
/-- The operations, in the memory that comes in. -/
def Lop (w : World) (ao : Option Addr) (K : Nat) : Prop := ∀ i, i < K → ∃ g off, ao = some ⟨g, off, none⟩ ∧ g < w.heap.size ∧ ∃ (o : Oq) (lo : Option Addr) (lc : Nat) (co : Option Addr) (cc : Nat) (bo : Option Addr) (bc : Nat),
  (∀ j, j < 5 → w.cell? ⟨g, off + i * 5 + j, none⟩ = some (opf o.k lo o.L.length lc o.m co o.cs.length cc bo o.l.length bc j)) ∧ Ow w (w.heap.size ≤ ·) o lo co bo bc
theorem tf_new (w : World) (a b : Value) (s e : Int) (t : TypeId) : (w.alloc (.cells #[a, b, .int .u32 s, .int .i64 e] t)).rowIs w.heap.size t 4 (tf a b s e) :=
  World.rowIs_alloc w _ t _ (fun i hi => by
    rcases i with _ | _ | _ | _ | i
    all_goals first
      | rfl
      | (simp at hi; omega))
theorem kp8 {Y X : World} {T0 : Nat} {a b : Value} {s e : Int} {g o : Nat} {v0 v1 v2 v3 v4 : Value} (h1 : Y.rowIs T0 33 4 (tf a b s e))
    (h2 : Y.cell? ⟨g, o, none⟩ = some v0 ∧ Y.cell? ⟨g, o + 1, none⟩ = some v1 ∧ Y.cell? ⟨g, o + 2, none⟩ = some v2 ∧ Y.cell? ⟨g, o + 3, none⟩ = some v3 ∧ Y.cell? ⟨g, o + 4, none⟩ = some v4) (hb : Below Y.heap.size Y X) :
    (X.cell? ⟨T0, 0, none⟩ = some a ∧ X.cell? ⟨T0, 1, none⟩ = some b ∧ X.cell? ⟨T0, 2, none⟩ = some (.int .u32 s) ∧ X.cell? ⟨T0, 3, none⟩ = some (.int .i64 e)) ∧ X.cell? ⟨g, o, none⟩ = some v0 ∧ X.cell? ⟨g, o + 1, none⟩ = some v1 ∧ X.cell? ⟨g, o + 2, none⟩ = some v2 ∧ X.cell? ⟨g, o + 3, none⟩ = some v3 ∧ X.cell? ⟨g, o + 4, none⟩ = some v4 := by
  have r := keepr hb h1
  exact ⟨⟨r.cell (by omega), r.cell (by omega), r.cell (by omega), r.cell (by omega)⟩, keepc hb h2.1, keepc hb h2.2.1, keepc hb h2.2.2.1, keepc hb h2.2.2.2.1, keepc hb h2.2.2.2.2⟩
theorem eqTold_n (bo bo' : Option Addr) (bc bc' n : Nat) (co co' : Option Addr) (cc cc' cn : Nat) (l : List Nat) (cs : List Ck) (s e : Int) (w : World) (en : n = l.length) (ec : cn = cs.length) (hl : l.length ≤ 9223372036854775807) (hc : cs.length ≤ 9223372036854775807) (h1 : By w bo l) (h2 : By w bo' l) (h3 : Cs w co cs) (h4 : Cs w co' cs) :
    Calls Tryd.prog 6 #[tld bo n bc co cn cc s e, tld bo' n bc' co' cn cc' s e] w fun x w' => x = .returned (.bool true) ∧ Below w.heap.size w w' := by
  subst en ec
  exact eqTold_same bo bo' bc bc' co co' cc cc' l cs s e w hl hc h1 h2 h3 h4
theorem u8s_lt {W : World} {base T n : Nat} {v : Value} {l : List Nat} (h : W.ownsRow base T 1 v n (u8s l)) : n = l.length ∧ n ≤ maxLen := by
  have h1 := h.1
  simp [u8s] at h1
  refine ⟨h1.symm, ?_⟩
  rcases h.2 with ⟨_, rfl⟩ | ⟨g, cap, cur, _, _, _, h4, h5, _⟩
  · exact Nat.zero_le _
  · omega
theorem aB_lt {w : World} {S : Nat → Prop} {o : Oq} {lo co bo : Option Addr} {bc : Nat} (h : Ow w S o lo co bo bc) : ∀ x ∈ aB o, x < 256 := by
  unfold aB wrB
  by_cases e : o.k = 2
  · rw [if_pos e]
    by_cases e2 : o.cs.length ≤ 1024 ∧ szC o.cs ≤ 16777216
    · rw [if_pos e2]; exact cont_lt _ (h.c.cs h.cm).ok
    · rw [if_neg e2]; intro x hx; simp at hx
  · rw [if_neg e]; intro x hx; simp at hx
/-- The answer's bytes and chunks, as they are read. -/
theorem To.reads {w w' : World} {S : Nat → Prop} {hb : Nat} {o : Oq} {bo : Option Addr} {bn bc : Nat} {co : Option Addr} {cn cc : Nat} (h : To w w' S hb o bo bn bc co cn cc) (hB : ∀ x ∈ aB o, x < 256) :
    bn = (aB o).length ∧ cn = (aC o).length ∧ By w' bo (aB o) ∧ Cs w' co (aC o) ∧ (aB o).length ≤ 9223372036854775807 ∧ (aC o).length ≤ 9223372036854775807 := by
  obtain ⟨z, gs, S', _, _, e1, e2, hb1, hc1, _, _, _⟩ := h.z
  refine ⟨e1, e2, (own_slice8 hb1 hB).2.2, hc1.cs.2, ?_, ?_⟩
  · obtain ⟨e, h2⟩ := u8s_lt hb1
    unfold maxLen at h2
    omega
  · rcases hc1.own.2 with ⟨_, h0⟩ | ⟨g, cap, cur, _, _, _, h4, h5, _⟩
    · omega
    · unfold maxLen at h5; omega
set_option maxHeartbeats 6400000 in
set_option maxRecDepth 100000 in
theorem chunkAll_any (ao : Option Addr) (K cap : Nat) (w : World) (LD : Laid w) (hK : K ≤ 1599289640355) (h : Lop w ao K) :
    Calls Tryd.prog 3 #[.slice ao K cap] w fun e w' => e = .returned (.bool true) ∧ Below w.heap.size w w' := by
  have HL := hid1 h
  have HD := hid1 LD
  have hgp := LD.pos
  clear h LD
  have iK0 : (0 : Int) ≤ (K : Int) := by omega
  have iK1 : (K : Int) ≤ 1599289640355 := by omega
  go_enter Tryd.func3, Tryd.ntmps3
  go_upto_region 4 with (go_at_call 4; refine (begun_any _ HD.out).mono ?_; rintro e w1 ⟨rfl, hb1⟩)
  refine gen_world (fun X => Hi X (w.heap.size ≤ ·) w1.heap.size ∧ BP (w.heap.size ≤ ·) w X) ⟨hi_new w1 _ hb1.size, (BP.bel hb1).alloc _⟩ ?_
  rintro X ⟨hi0, hp0⟩
  have HI := hid1 hi0
  have HP := hid1 hp0
  clear hi0 hp0 hb1
  go_wp2_with fail
  go_loopw [4] (fun i wr => ∃ k : Nat, k ≤ K ∧ i = .int .i64 k ∧ Hi wr (w.heap.size ≤ ·) w1.heap.size ∧ BP (w.heap.size ≤ ·) w wr) (fun i _ => K - (intOf i).toNat)
  case atStart => exact ⟨0, Nat.zero_le _, rfl, HI.out, HP.out⟩
  case round =>
    clear HI HP
    obtain ⟨k, hk, rfl, hi0, hp0⟩ := hrel
    have HI := hid1 hi0
    have HP := hid1 hp0
    clear hi0 hp0
    have ik0 : (0 : Int) ≤ (k : Int) := by omega
    by_cases hlt : k < K
    · have ik : (k : Int) < (K : Int) := by omega
      obtain ⟨g, off, rfl, hgw, o, lo, lc, co, cc, bo, bc, hcs, how⟩ := HL.out k hlt
      have how1 := how.bp HP.out fun _ h => h
      have TA := hid1 (told_any o (w.heap.size ≤ ·) w1.heap.size lo lc co cc bo bc wr (fun b hb => Nat.le_trans HP.out.size hb) HI.out how1 (HD.out.bp HP.out (by omega)) (by omega))
      have WA := hid1 (fun X (hX : BP (w.heap.size ≤ ·) w X) => wanted_any o (w.heap.size ≤ ·) lo lc co cc bo bc X (how.bp hX fun _ h => h))
      have HAB := hid1 (aB_lt how)
      have hcs' : ∀ X, BP (w.heap.size ≤ ·) w X → ∀ j, j < 5 → X.cell? ⟨g, off + k * 5 + j, none⟩ = some (opf o.k lo o.L.length lc o.m co o.cs.length cc bo o.l.length bc j) := fun X hX j hj => hX.cell (by omega) (hcs j hj)
      have HCS := hid1 (fun X hX => (⟨hcs' X hX 0 (by omega), hcs' X hX 1 (by omega), hcs' X hX 2 (by omega), hcs' X hX 3 (by omega), hcs' X hX 4 (by omega)⟩ : X.cell? ⟨g, off + k * 5, none⟩ = some (.int .i64 o.k) ∧ X.cell? ⟨g, off + k * 5 + 1, none⟩ = some (.slice lo o.L.length lc) ∧ X.cell? ⟨g, off + k * 5 + 2, none⟩ = some (.int .u32 o.m) ∧ X.cell? ⟨g, off + k * 5 + 3, none⟩ = some (.slice co o.cs.length cc) ∧ X.cell? ⟨g, off + k * 5 + 4, none⟩ = some (.slice bo o.l.length bc)))
      obtain ⟨c0, c1, c2, c3, c4⟩ := HCS.out wr HP.out
      clear hcs hcs' how how1
      obtain ⟨s, es⟩ : ∃ s, aS o = s := ⟨_, rfl⟩
      obtain ⟨E, eE⟩ : ∃ s, aE o = s := ⟨_, rfl⟩
      rw [es, eE] at TA WA
      clear es eE
      go_upto_region 8 with (go_at_call 5; refine TA.out.mono ?_; rintro e W1 ⟨b, bn, bcp, c, cn, cp, rfl, hto⟩)
      refine gen_world (fun P => Below W1.heap.size W1 P ∧ P.rowIs W1.heap.size 33 4 (tf (.slice b bn bcp) (.slice c cn cp) s E)) ⟨bl_alloc (Below.refl _ _) _, tf_new _ _ _ _ _ _⟩ ?_
      rintro P ⟨hP, rP⟩
      obtain ⟨T0, eT⟩ : ∃ x, W1.heap.size = x := ⟨_, rfl⟩
      rw [eT] at rP
      rw [eT]
      have hpP := (HP.out.trans hto.b fun _ _ h => h).step hP
      have hiP : Hi P (w.heap.size ≤ ·) w1.heap.size := by
        obtain ⟨z, gs, S', _, _, _, _, _, _, h1, h2, _⟩ := hto.z
        exact (h1.sub fun b hb _ => (h2 b hb).1).below hP
      obtain ⟨en, ec, hy, hc, l1, l2⟩ := hto.reads HAB.out
      have HRP := hid1 rP
      have HCP := hid1 (HCS.out P hpP)
      have HPP := hid1 hpP
      have HIP := hid1 hiP
      have HY := hid1 (hy.keep hP)
      have HC := hid1 (hc.keep hP)
      have EN := hid1 en
      have EC := hid1 ec
      clear TA c0 c1 c2 c3 c4 hto hP rP hpP hiP hy hc en ec HCS HI HP eT
      go_cut [37] (fun s wx => s = .bool false ∧ Below P.heap.size P wx)
      case first =>
        go_region_held3 (fun X => (X.cell? ⟨T0, 0, none⟩ = some (.slice b bn bcp) ∧ X.cell? ⟨T0, 1, none⟩ = some (.slice c cn cp) ∧ X.cell? ⟨T0, 2, none⟩ = some (.int .u32 s) ∧ X.cell? ⟨T0, 3, none⟩ = some (.int .i64 E)) ∧ X.cell? ⟨g, off + k * 5, none⟩ = some (.int .i64 o.k) ∧ X.cell? ⟨g, off + k * 5 + 1, none⟩ = some (.slice lo o.L.length lc) ∧ X.cell? ⟨g, off + k * 5 + 2, none⟩ = some (.int .u32 o.m) ∧ X.cell? ⟨g, off + k * 5 + 3, none⟩ = some (.slice co o.cs.length cc) ∧ X.cell? ⟨g, off + k * 5 + 4, none⟩ = some (.slice bo o.l.length bc)) (((try dsimp only); (with_reducible refine kp8 HRP.out HCP.out ?_); repeat (first | (with_reducible exact Below.refl _ _) | (with_reducible refine Below.drew ?_) | (with_reducible refine bl_drewN ?_ _) | (with_reducible refine bl_step ?_ (by assumption)))))
          (first
          | (go_at_call 6; refine (eqTold_n b b' bcp bcp' bn c c' cp cp' cn (aB o) (aC o) s E y1 EN.out EC.out l1 l2 (HY.out.keep by1) u1 (HC.out.keep by1) u2).mono ?_; rintro e y2 ⟨rfl, hb2⟩)
          | (go_at_call 7; refine gen_calls (fun X => Below P.heap.size P X) (by repeat (first | (with_reducible exact Below.refl _ _) | (with_reducible refine Below.drew ?_) | (with_reducible refine bl_drewN ?_ _) | (with_reducible refine bl_step ?_ (by assumption)))) ?_; intro X hX; refine (WA.out X (HPP.out.step hX)).mono ?_; rintro e y1 ⟨b', bn', bcp', c', cn', cp', rfl, en', ec', u1, u2, _, _, hb1⟩; have en2 : bn = bn' := EN.out.trans en'.symm; have ec2 : cn = cn' := EC.out.trans ec'.symm; subst en2 ec2; have by1 := bl_step hX hb1; clear en' ec'))
        all_goals (refine meet_of (by assumption) ?_; go_meet; exact ⟨rfl, bl_step by1 hb2⟩)
      case rest =>
        obtain ⟨rfl, hbP⟩ := hcut
        have hiF := HIP.out.below hbP
        have hpF := HPP.out.step hbP
        clear HIP HPP HRP HCP HY HC WA
        go_wp2_with fail
        exact ⟨⟨k + 1, by omega, by go_num, hiF, hpF⟩, by simp [intOf]; omega⟩
    · have hkc : k = K := by omega
      subst hkc
      go_wp2_with fail
      go_ret
      have hp := HP.out
      exact ⟨rfl, hp.os, hp.tape, hp.output, hp.size, fun b hb => hp.block b hb (by omega)⟩
end Go.Proofs.YtbpglkhgggokcaaDoor
