/- The document's cache: Put. -/
import Derived.Test.YtpjcpikafpnmpaaAC4
namespace Go.Proofs.Ytpjcpikafpnmpaa
open Go.RowKit

/-- Put under way: nothing has turned but new memory. -/
structure PJ (w : World) (T : Nat → Prop) (d : Nat) (rm h m : Int) (v : Value) (R : List Re) (ro : Option Addr) (nl rc : Nat) (a : Int) (X : World) : Prop where
  r : Rv X T d rm h m v R
  bp : BP T w X
  box : X.rowIs w.heap.size 31 2 (rf (.slice ro nl rc) a)
  bel : Below w.heap.size w X
theorem PJ.below {w X X' : World} {T : Nat → Prop} {d : Nat} {rm h m : Int} {v : Value} {R : List Re} {ro : Option Addr} {nl rc : Nat} {a : Int} (p : PJ w T d rm h m v R ro nl rc a X) (hb : Below X.heap.size X X') : PJ w T d rm h m v R ro nl rc a X' :=
  ⟨p.r.below hb, p.bp.step hb, keepr hb p.box, bl_step p.bel hb⟩
theorem PJ.qt {w X X' : World} {T : Nat → Prop} {d : Nat} {rm h m : Int} {v : Value} {R : List Re} {ro : Option Addr} {nl rc : Nat} {a : Int} (p : PJ w T d rm h m v R ro nl rc a X) (hb : Qt X X') : PJ w T d rm h m v R ro nl rc a X' := p.below (hb.below (Below.refl _ _))
theorem Ow.qt {w w' : World} {base : Nat} {v : Value} {l : List Int} (h : Ow w base v l) (q : Qt w w') : Ow w' base v l := h.below (q.below (Below.refl _ _))
theorem meet_of {J K : Act → World → Prop} {Q : Exit → Act → World → Prop} {a : Act} {w : World} (hK : ∀ a' w', Met J a' w' → K a' w') (h : Met J a w) : Exit.then K Q Exit.normal a w := hK _ _ h
/-- The front of a list. -/
theorem El.front {w : World} {T : Nat → Prop} {base g n cap : Nat} {R : List Re} (e : El w T base (.slice (some ⟨g, 0, none⟩) n cap) R) (k : Nat) (hk : k ≤ R.length) : El w T base (.slice (some ⟨g, 0, none⟩) k cap) (R.take k) := by
  refine ⟨⟨rcs_len _, ?_⟩, fun x hx => e.lg x (List.mem_of_mem_take hx), e.sv, fun x hx => e.sl x (List.mem_of_mem_take hx)⟩
  have hl : (R.take k).length = k := by rw [List.length_take]; omega
  rw [hl]
  rcases e.own.2 with ⟨h0, _⟩ | ⟨g', cap', cur, hv, h1, h2, h3, h4, h5, h6⟩
  · cases h0
  · injection hv with a1 a2 a3
    injection a1 with a1
    injection a1 with a1 _ _
    subst a1 a3
    refine .inr ⟨_, _, cur, rfl, h1, h2, by omega, h4, h5, ?_⟩
    rw [rcs_take, ← h6, List.take_take, Nat.min_eq_left (by omega)]
set_option maxHeartbeats 6400000 in
set_option maxRecDepth 100000 in
theorem rput_core (w : World) (T : Nat → Prop) (d : Nat) (rm h m : Int) (v : Value) (R : List Re) (r : Rv w T d rm h m v R) (hlen : R.length ≤ 4096) (ao : Option Addr) (cap : Nat) (s : ByteArray) (hs : Bs w ao s) (hz : s.size ≤ 65536)
    (ro : Option Addr) (rc : Nat) (l : List Int) (a : Int) (hrc : ro = none → rc = 0) (hr : Nm w ro l) (hM : l.length * 8 ≤ 140737488355328) (hrm : 1 ≤ rm ∧ rm ≤ 4096) (i : Int)
    (hfd : ∀ X, Rv X T d rm h m v R → Bs X ao s → Calls Try.prog 53 #[.pointer (some ⟨d, 0, none⟩), .slice ao s.size cap] X fun e w' => e = .returned (.int .i64 i) ∧ Qt X w') :
    Calls Try.prog 42 #[.pointer (some ⟨d, 0, none⟩), .slice ao s.size cap, rsv (.slice ro l.length rc) a] w fun e w' => e = .returned (.int .i64 0) ∧ ∃ v' u, Rv w' (grown T w w') d rm h m v' ((⟨s, u, l, a⟩ :: sk i R).take rm.toNat) ∧ BP T w w' := by
  obtain ⟨nl, hnl⟩ : ∃ nl, l.length = nl := ⟨_, rfl⟩
  have HNL := hid1 hnl
  have HRC := hid1 hrc
  have HNM := hid1 hr
  have HM := hid1 hM
  have HS := hid1 hs
  have hd := r.box.lt
  rw [hnl]
  have BA : Below w.heap.size w (w.alloc (.cells #[.slice ro nl rc, .int .i64 a] 31)) := bl_alloc (Below.refl _ _) _
  have HP := hid1 (show PJ w T d rm h m v R ro nl rc a (w.alloc (.cells #[.slice ro nl rc, .int .i64 a] 31)) from ⟨r.below BA, (BP.refl T w).alloc _, rf_new w _ _, BA⟩)
  have hz1 : ¬ (65536 : Int) < (s.size : Int) := by omega
  have HFD := hid1 (fun X (hX : PJ w T d rm h m v R ro nl rc a X) => hfd X hX.r (hs.below hX.bel))
  have HOW := hid1 (fun X (hX : PJ w T d rm h m v R ro nl rc a X) => rown_any ro rc l a X hrc (hr.below hX.bel) hM)
  rw [hnl] at HOW
  have HCV := hid1 (fun X (hX : PJ w T d rm h m v R ro nl rc a X) => conv_str (cap := cap) (hs.below hX.bel))
  have HFI : Hid (∀ X uo uc, PJ w T d rm h m v R ro nl rc a X → Ow X w.heap.size (.slice uo nl uc) l → Calls Try.prog 54 #[.pointer (some ⟨d, 0, none⟩), .agg #[.string s, .slice uo nl uc, .int .i64 a], .int .i64 i] X fun e w' => e = .returned (.tuple #[]) ∧ ∃ v' u, Rv w' (grown T w w') d rm h m v' (⟨s, u, l, a⟩ :: sk i R) ∧ BP T w w') := fun X uo uc hX how => by
    refine (first_any X T d rm h m v R hX.r hlen ⟨s, .slice uo nl uc, l, a⟩ uo nl uc rfl i).mono ?_
    rintro e w' ⟨rfl, v', W, rfl, bl, ow⟩
    have hlt := how.lt
    have := hX.bp.size
    have hbs := bl.size
    refine ⟨rfl, v', .slice uo nl uc, ((hX.r.more (T' := grown T w X) fun k hk => .inl hk).first bl ((how.base (Nat.zero_le _)).below bl) (fun g hg => .inl (.inr (hlt g hg))) ow).more fun k hk => ?_, (hX.bp.step bl).setA (a := ⟨d, 1, none⟩) r.sd _⟩
    rcases hk with (hk | hk) | hk
    · exact .inl hk
    · exact .inr ⟨hk.1, by simp; omega⟩
    · exact .inr ⟨by omega, hk.2⟩
  clear r BA hs hr hM hrc hfd hnl
  go_enter Try.func42, Try.ntmps42
  go_upto_region 3 with fail
  generalize w.alloc (.cells #[.slice ro nl rc, .int .i64 a] 31) = X0 at *
  go_cut [] from 10 to 19 (fun wx => ∃ v' u, Rv wx (grown T w wx) d rm h m v' (⟨s, u, l, a⟩ :: sk i R) ∧ BP T w wx)
  case first =>
    have hJ : PJ w T d rm h m v R ro nl rc a X0.drew := HP.out.qt ⟨1, rfl⟩
    have cv := HCV.out _ hJ
    have d0 := hJ.box.cell (i := 0) (by omega)
    have d1 := hJ.box.cell (i := 1) (by omega)
    dsimp only [rf] at d0 d1
    go_region_with (first
      | (go_at_call 55; refine (HOW.out _ hJ).mono ?_; rintro e X1 ⟨u, rfl, ow1, bl1⟩; obtain ⟨uo, uc, rfl, -, -, -⟩ := ow1.nm; have hJ1 := hJ.below bl1; have ow2 := ow1.base (hJ.bel.size); have cv1 := HCV.out _ hJ1)
      | (go_at_call 53; refine (HFD.out _ hJ1).mono ?_; rintro e X2 ⟨rfl, q2⟩; have hJ2 := hJ1.qt q2; have ow3 := ow2.qt q2; have cv2 := HCV.out _ hJ2)
      | (go_at_call 54; rw [HNL.out] at *; refine (HFI.out _ _ _ hJ2 ow3).mono ?_; rintro e X3 ⟨rfl, hX3⟩))
    all_goals (refine meet_of (by assumption) ?_; go_meet; exact hX3)
  case rest =>
    obtain ⟨v', u, r', bp'⟩ := hcut
    rename World => X
    clear HP HFD HOW HCV HFI HS HNM HRC HM
    obtain ⟨q, hq⟩ : ∃ q, (⟨s, u, l, a⟩ :: sk i R : List Re).length = q := ⟨_, rfl⟩
    obtain ⟨vo, vc, rfl, hvc, -, hat⟩ := r'.el.sl_at
    obtain ⟨gv, -, -, -, rfl, -⟩ := hat 0 _ rfl
    clear hat
    have hqs : q ≤ 4097 := by have := sk_len i R; simp only [List.length_cons] at hq; omega
    have b0 := r'.box.cell (i := 0) (by omega)
    have b1 := r'.box.cell (i := 1) (by omega)
    have k1 := r'.box.frozen 1
    dsimp only [rcf] at b0 b1
    rw [hq] at b1 hvc
    have HR := hid1 (And.intro r' bp')
    have HQ := hid1 hq
    clear r' bp' hq
    go_upto_region 4 with fail
    go_quiet (fail)
    by_cases hqr : rm < (q : Int)
    · have hr0 : (0 : Int) ≤ rm := by omega
      have hrv : rm ≤ (vc : Int) := by omega
      have qq : Qt X (X.drewN nq) := ⟨nq, rfl⟩
      have qz : Qt X ((X.drewN nq).drew) := ⟨nq + 1, rfl⟩
      have c0 := qz.cell b0
      have c1 := qz.cell b1
      have kz : ((X.drewN nq).drew).frozen? ⟨d, 1, none⟩ = false := ((qz.below (Below.refl X.heap.size X)).frozen (p := ⟨d, 1, none⟩) (HR.out.1.box.lt)).trans k1
      have HQZ := hid1 qz
      clear qq qz
      go_upto_region 5 with fail
      refine still_tail 12 (by kernel_rfl) ?_
      simp only [List.take_succ_cons, List.take_zero, List.drop_succ_cons, List.drop_zero]
      repeat still_step
      refine wpStill_nil ?_
      go_wp2_with fail
      go_ret
      have qq : Qt X (X.drewN (nq + 1)) := ⟨nq + 1, rfl⟩
      have r2 := (HR.out.1.qt qq).more (T' := grown T w ((X.drewN (nq + 1)).setCell ⟨d, 1, none⟩ (.slice (some ⟨gv, 0, none⟩) rm.toNat vc))) fun k hk => by
        rcases hk with hk | hk
        · exact .inl hk
        · exact .inr ⟨hk.1, by simp; exact hk.2⟩
      refine ⟨rfl, ⟨_, u, r2.setL r2.sd (r2.el.front rm.toNat (by rw [HQ.out]; omega))⟩, (HR.out.2.qtt qq).set (g := d) (o := 1) (.inl ?_) _⟩
      rcases HR.out.1.sd with hk | hk
      · exact hk
      · omega
    · have qq := hid1 (show Qt X (X.drewN nq) from ⟨nq, rfl⟩)
      have hqr' : ¬ rm < (q : Int) := hqr
      go_wp2_with fail
      go_ret
      refine ⟨rfl, ⟨_, u, (by rw [List.take_of_length_le (by rw [HQ.out]; omega)]; exact (HR.out.1.qt qq.out).more fun k hk => by unfold grown; rw [size_qt qq.out]; exact hk)⟩, HR.out.2.qtt qq.out⟩
theorem rput_long (w : World) (d : Nat) (ao : Option Addr) (n cap : Nat) (v : Value) (a : Int) (hz : 65536 < n) :
    Calls Try.prog 42 #[.pointer (some ⟨d, 0, none⟩), .slice ao n cap, rsv v a] w fun e w' => e = .returned (.int .i64 2) ∧ Below w.heap.size w w' := by
  have h1 : (65536 : Int) < (n : Int) := by omega
  go_enter Try.func42, Try.ntmps42
  go_wp2_with fail
  go_ret
  exact ⟨rfl, bl_alloc (Below.refl _ _) _⟩
end Go.Proofs.Ytpjcpikafpnmpaa
