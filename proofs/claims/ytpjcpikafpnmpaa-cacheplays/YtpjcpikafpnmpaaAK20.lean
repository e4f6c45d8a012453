/- CACHE: Forget, the walk. -/
import Derived.Test.YtpjcpikafpnmpaaAK19
namespace Go.Proofs.Ytpjcpikafpnmpaa
open Go.RowKit Go.MuLone Go.Shelf
attribute [local go_sem] Oper.semAt_some

theorem one_row (w : World) (x : Value) (t : TypeId) : (w.alloc (.cells #[x] t)).rowIs w.heap.size t 1 (fun _ => x) := World.rowIs_alloc w #[x] t _ (fun i hi => by simp at hi; subst hi; rfl)
set_option maxHeartbeats 3200000 in
set_option maxRecDepth 100000 in
theorem forget_any (S : Nat → Prop) (p : Nat) {rm : Int} {bm : Nat} {h m : Int} (L : List Ce) (w : World) (c : Ch w S p rm 0 bm h m L) (hS : ∀ k, S k → k < w.heap.size) (ao : Option Addr) (cap : Nat) (s : ByteArray) (hs : Bs w ao s) :
    Calls Try.prog 13 #[.pointer (some ⟨p, 0, none⟩), .slice ao s.size cap] w fun e w' => e = .returned (.int .i64 ((L.length : Int) - ((lf s L).length : Int))) ∧ Ch w' S p rm 0 bm h m (lf s L) ∧ BP S w w' := by
  have HSI := hid1 hS
  have hp : p < w.heap.size := c.rw.box.lt
  have hcv := conv_str (cap := cap) (hs.below (bl_alloc (Below.refl _ w) (.cells #[.pointer (some ⟨p, 0, none⟩)] 24)))
  obtain ⟨sz, hsz⟩ : ∃ sz, s.size = sz := ⟨_, rfl⟩
  rw [hsz] at hcv ⊢
  clear hsz
  have r0 : ((w.alloc (.cells #[.pointer (some ⟨p, 0, none⟩)] 24)).alloc (.cells #[.string s] 9)).rowIs w.heap.size 24 1 (fun _ => .pointer (some ⟨p, 0, none⟩)) := (one_row w _ _).alloc _
  have r1 : ((w.alloc (.cells #[.pointer (some ⟨p, 0, none⟩)] 24)).alloc (.cells #[.string s] 9)).rowIs (w.heap.size + 1) 9 1 (fun _ => .string s) := by
    have := one_row (w.alloc (.cells #[.pointer (some ⟨p, 0, none⟩)] 24)) (.string s) 9
    rwa [World.size_alloc] at this
  have B1 : Below w.heap.size w ((w.alloc (.cells #[.pointer (some ⟨p, 0, none⟩)] 24)).alloc (.cells #[.string s] 9)) := bl_alloc (bl_alloc (Below.refl _ _) _) _
  have HR := hid1 (And.intro r0 (And.intro r1 B1))
  have HC := hid1 (c.below B1)
  have hsp := c.sp
  clear r0 r1 B1 c hs hS
  refine (callsIn_wide (n := 10)).1 (callsIn_of_wp_marks Try.func13 rfl trivial ?_ rfl)
  simp only [Try.ntmps13, List.size_toArray, List.length_cons, List.length_nil, Nat.reduceAdd, Nat.reduceSub, Array.replicate_succ, Array.replicate_zero, List.push_toArray, List.append_toArray, List.nil_append, List.cons_append]
  refine wpIn_wide.2 ?_
  go_upto_region 2 with fail
  generalize (w.alloc (.cells #[.pointer (some ⟨p, 0, none⟩)] 24)).alloc (.cells #[.string s] 9) = X at *
  obtain ⟨r0, r1, B1⟩ := HR.out
  have c1 := HC.out.rw.box.cell (i := 1) (by omega)
  have f1 := HC.out.rw.box.frozen 1
  have s0 := r0.cell (i := 0) (by omega)
  have c' := HC.out.lock 1
  have q0 := r0.setOther (a := ⟨p, 1, none⟩) (show w.heap.size ≠ p by omega) (.int .i32 1)
  have q1 := r1.setOther (a := ⟨p, 1, none⟩) (show w.heap.size + 1 ≠ p by omega) (.int .i32 1)
  have b1 : BP S w (X.setCell ⟨p, 1, none⟩ (.int .i32 1)) := (BP.bel B1).setA (a := ⟨p, 1, none⟩) hsp _
  dsimp only [cf] at c1
  clear HR r0 r1 B1 HC hcv
  go_upto_region 3 with (go_at_call 27; refine (lock_free muLib ⟨p, 1, none⟩ _ c1 f1).mono ?_; rintro e w' ⟨rfl, rfl⟩)
  generalize X.setCell ⟨p, 1, none⟩ (.int .i32 1) = X1 at *
  clear c1 f1 s0
  have s1 := q0.cell (i := 0) (by omega)
  have p3 := c'.rw.box.cell (i := 3) (by omega)
  have hln := fun ty => c'.mp.len ty X1 rfl
  dsimp only [cf] at p3
  have hrom := c'.rom
  obtain ⟨N, hN⟩ : ∃ N, L.length = N := ⟨_, rfl⟩
  rw [hN] at hln hrom
  have hN1 : N ≤ 4096 := by omega
  go_wp2_with (go_at_call 34; refine (all_any p X1).mono ?_; rintro e w' ⟨rfl, rfl⟩)
  have k4 : FJ S w p rm bm h m s L w.heap.size (w.heap.size + 1) X1.heap.size 0 (X1.alloc (.cells #[.pointer (some ⟨p, 4, none⟩)] 96)) := by
    refine ⟨?_, b1.alloc _, q0.alloc _, q1.alloc _, one_row _ _ _⟩
    rw [show lf s (L.take 0) ++ L.drop 0 = L by simp [lf]]
    exact c'.below (bl_alloc (Below.refl _ _) _)
  have hb3 := b1.size
  have hz4 : (X1.alloc (.cells #[.pointer (some ⟨p, 4, none⟩)] 96)).heap.size = X1.heap.size + 1 := by simp
  have hinj := bl_inj c'.rw.nd
  clear q0 q1 b1 s1 p3 hln c'
  generalize X1.alloc (.cells #[.pointer (some ⟨p, 4, none⟩)] 96) = X4 at *
  generalize X1.heap.size = rb at *
  have hput : ∀ i (W : World) (l : Nat) (o o' : Obj), X4.heap.size ≤ l → W.heap[l]? = some o → o.isCells = false → FJ S w p rm bm h m s L w.heap.size (w.heap.size + 1) rb i W → FJ S w p rm bm h m s L w.heap.size (w.heap.size + 1) rb i (W.putObj l o') := fun i W l o o' hl ho hc k => by
    have hlw : w.heap.size ≤ l := by omega
    refine k.put (put_cells ho hc) (World.putObj_heap_other (fun e' => ?_)) (k.bp.trans (BP.grown (grownBy_putObj' W l o')) (fun x hx e => by cases e; omega))
    have := HSI.out _ k.ch.sm; omega
  have HPUT := hid1 hput
  clear hput
  refine (wpIn_wide (n := 10)).1 (range_rounds (gf := 51) (lb := #[.pointer (some ⟨rb, 0, none⟩)]) rfl (enters_of Try.func51 (by kernel_rfl) rfl) N (fun i => #[.pointer (some ⟨bl L i, 0, none⟩)]) (fun _ => rfl) (FJ S w p rm bm h m s L w.heap.size (w.heap.size + 1) rb) ?hJ ?hJa ?hcall ?a1 ?assign ?body ?done)
  case hJ => exact fun i W l o o' hl ho hc k => HPUT.out i W l o o' hl ho hc k
  case hJa =>
    intro o o'
    have hb : Below X4.heap.size X4 ((X4.alloc o).alloc o') := bl_alloc (bl_alloc (Below.refl _ _) _) _
    refine k4.put (fun b ⟨C, t, c, e⟩ => hb.block b (Array.getElem?_eq_some_iff.1 e).1) (hb.block _ k4.ch.mp.lt) (k4.bp.step hb)
  case hcall =>
    intro l K W hKJ h0 hY
    rw [← hN] at *
    exact rall1_in _ l rb p L.length (by decide) (bl L) hinj K (fun i W hk => (hKJ i W hk).it1) hY W h0
  case assign =>
    intro l i W K hK
    gi_wp2
    exact hK
  case body =>
    intro l i W hi k
    have hiL : i < L.length := by omega
    have hd0 := drop_at hiL
    have hc := k.ch
    rw [hd0] at hc
    have re := ((seg_app _ _ none none).1 hc.rw.seg).2.1
    have e0 : W.cell? ⟨L[i].b, 0, none⟩ = some (.string L[i].k) := re.cell (i := 0) (by omega)
    have e1 := k.self.cell (i := 0) (by omega)
    have e2 := k.fro.cell (i := 0) (by omega)
    have qd : Qt W W.drew := ⟨1, rfl⟩
    have HLG := hid1 (letGo_any S p (lf s (L.take i)) (L.drop (i + 1)) L[i] W.drew (hc.qt qd))
    have et : L.take (i + 1) = L.take i ++ [L[i]] := by rw [List.take_add_one, List.getElem?_eq_getElem hiL]; rfl
    have HET := hid1 et
    have HCC := hid1 hc
    have HK := hid1 k
    clear et hc hd0 re k
    rw [← bl_lt hiL] at e0 HLG
    generalize hbi : bl L i = bi at *
    obtain ⟨kk, hkk⟩ : ∃ kk, L[i].k = kk := ⟨_, rfl⟩
    rw [hkk] at e0
    have HKK := hid1 hkk
    clear hkk hbi
    have HPR := hid1 (pre_any kk s W.drew)
    obtain ⟨bb, hbb⟩ : ∃ bb, pf s kk = bb := ⟨_, rfl⟩
    have HBB := hid1 hbb
    rw [hbb] at HPR
    clear hbb
    gi_wp2
    refine stillA 5 (by decide +kernel) (by kernel_rfl) (noOutA_then (noOutA_block noOutA)) ?_
    simp only [List.take_succ_cons, List.take_zero, List.drop_succ_cons, List.drop_zero]
    repeat still_step
    refine wpStill_nil ?_
    go_wp2_with fail
    refine HPR.out.mono ?_
    rintro e w' ⟨rfl, rfl⟩
    cases bb with
    | false =>
      go_wp2_with fail
      gi_wp2
      have k := HK.out
      refine ⟨(KeepsOthers.drew W).from _, ⟨?_, k.bp.drew, row_qt k.self qd, row_qt k.fro qd, row_qt k.it qd⟩⟩
      have hc := HCC.out.qt qd
      rw [HET.out, lf_snoc, HKK.out, HBB.out]
      simpa using hc
    | true =>
      go_wp2_with fail
      gi_wp2
      refine ⟨trivial, CallsIn.inRound l (callsIn_wide.2 (HLG.out.mono ?_))⟩
      rintro e w2 ⟨rfl, c2, -, b2, z2⟩
      go_wp2_with fail
      gi_wp2
      have k := HK.out
      have hbW : BP S W w2 := bp_drew b2
      have hno : ∀ b, w.heap.size ≤ b → ¬ S b := fun b hb hs => absurd (HSI.out b hs) (by omega)
      have hrb : w.heap.size ≤ rb := by omega
      refine ⟨⟨hbW.size, fun b o hb he _ => (hbW.block b (Array.getElem?_eq_some_iff.1 he).1 (hno b (by omega))).trans he⟩, ⟨?_, k.bp.trans hbW (fun _ _ h => h), hbW.row (hno _ (Nat.le_refl _)) k.self, hbW.row (hno _ (Nat.le_succ _)) k.fro, hbW.row (hno _ hrb) k.it⟩⟩
      rw [HET.out, lf_snoc, HKK.out, HBB.out]
      simpa using c2
  case done =>
    intro D W hD k hd
    dsimp only
    have hk := k.ch
    rw [show lf s (L.take N) ++ L.drop N = lf s L by rw [List.take_of_length_le (by omega), List.drop_eq_nil_of_le (by omega), List.append_nil]] at hk
    have e1 := k.self.cell (i := 0) (by omega)
    have p3 := hk.rw.box.cell (i := 3) (by omega)
    dsimp only [cf] at p3
    have hln := fun ty => hk.mp.len ty W rfl
    have hlf : (lf s L).length ≤ L.length := List.length_filter_le _ _
    obtain ⟨M, hM⟩ : ∃ M, (lf s L).length = M := ⟨_, rfl⟩
    rw [hM] at hln
    have hMN : (M : Int) ≤ (N : Int) := by omega
    have HK := hid1 k
    have HM := hid1 hM
    have HNN := hid1 hN
    clear hk k hlf hM hN
    go_wp2_with fail
    have k' := HPUT.out N W D _ (.deferred none) hD hd rfl HK.out
    have c' := k'.ch
    rw [show lf s (L.take N) ++ L.drop N = lf s L by rw [← HNN.out, List.take_length, List.drop_length, List.append_nil]] at c'
    refine doorM (.int .i64 ((N : Int) - (M : Int))) hd (c'.rw.box.cell (i := 1) (by omega)) (c'.rw.box.frozen 1) (by simp [results, Try.results13, go_sem]) ⟨?_, c'.lock 0, k'.bp.setA (a := ⟨p, 1, none⟩) hsp _⟩
    rw [← HM.out, ← HNN.out]
end Go.Proofs.Ytpjcpikafpnmpaa
