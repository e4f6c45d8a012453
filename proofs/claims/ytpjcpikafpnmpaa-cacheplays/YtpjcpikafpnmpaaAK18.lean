/- CACHE: Keys, the walk. -/
import Derived.Test.YtpjcpikafpnmpaaAK17
namespace Go.Proofs.Ytpjcpikafpnmpaa
open Go.RowKit Go.MuLone Go.Shelf
attribute [local go_sem] Oper.semAt_some

set_option maxHeartbeats 3200000 in
set_option maxRecDepth 100000 in
theorem keys_any (S : Nat → Prop) (p : Nat) {rm : Int} {bm : Nat} {h m : Int} (L : List Ce) (w : World) (c : Ch w S p rm 0 bm h m L) (hS : ∀ k, S k → k < w.heap.size) :
    Calls Try.prog 12 #[.pointer (some ⟨p, 0, none⟩)] w fun e w' => ∃ v ss, e = .returned v ∧ Kl w' w.heap.size v (L.map (·.k)) ss ∧ Ch w' S p rm 0 bm h m L ∧ BP S w w' := by
  have HC := hid1 c
  have HSI := hid1 hS
  have c1 := c.rw.box.cell (i := 1) (by omega)
  have f1 := c.rw.box.frozen 1
  have c' := c.lock 1
  have HB := hid1 (bp_p c.sp w 1 (.int .i32 1))
  have HZ : Hid ((w.setCell ⟨p, 1, none⟩ (.int .i32 1)).heap.size = w.heap.size) := by simp [Hid]
  dsimp only [cf] at c1
  clear c hS
  refine (callsIn_wide (n := 10)).1 (callsIn_of_wp_marks Try.func12 rfl trivial ?_ rfl)
  simp only [Try.ntmps12, List.size_toArray, List.length_cons, List.length_nil, Nat.reduceAdd, Nat.reduceSub, Array.replicate_succ, Array.replicate_zero, List.push_toArray, List.append_toArray, List.nil_append, List.cons_append]
  refine wpIn_wide.2 ?_
  go_upto_region 3 with (go_at_call 27; refine (lock_free muLib ⟨p, 1, none⟩ _ c1 f1).mono ?_; rintro e w' ⟨rfl, rfl⟩; generalize hw : w.setCell ⟨p, 1, none⟩ (.int .i32 1) = w1 at *; clear c1 f1 hw)
  have p3 := c'.rw.box.cell (i := 3) (by omega)
  have hln := fun ty => c'.mp.len ty w1 rfl
  dsimp only [cf] at p3
  have hrom := c'.rom
  obtain ⟨N, hN⟩ : ∃ N, L.length = N := ⟨_, rfl⟩
  rw [hN] at hln hrom
  have hN1 : N ≤ 4096 := by omega
  obtain ⟨i0, hi, hz0, hz1, hz2⟩ := info_parts info_bytes
  obtain ⟨w2, mk, own, gr⟩ := run_make_own (P := Try.prog) w1 w.heap.size 38 28 i0 (.slice none 0 0) 1 und_bytess hi hz0 hz1 .i64 .i64 N (by rw [hz2]; omega) (by unfold maxLen; omega) (by rw [HZ.out]; omega)
  have b2 : BP S w1 w2 := BP.mono (BP.grown gr) (fun _ _ e => by cases e)
  have z2 : w1.heap.size ≤ w2.heap.size := gr.size
  have c2 : Ch w2 S p rm 1 bm h m L := c'.keep fun k hk hlt => gr.block k hlt (by simp)
  have kl2 : Kl w2 w.heap.size (.slice (some ⟨w1.heap.size, 0, none⟩) 0 N) [] [] := ⟨rfl, own, fun i k s a => by simp at a, fun i j a b _ e => by simp at e⟩
  go_upto_region 4 with fail
  refine gen_world (fun X => Ch X S p rm 1 bm h m L ∧ X.rowIs w2.heap.size 38 1 (fun _ => .slice (some ⟨w1.heap.size, 0, none⟩) 0 N) ∧ Kl X w.heap.size (.slice (some ⟨w1.heap.size, 0, none⟩) 0 N) [] [] ∧ BP S w X ∧ w.heap.size ≤ w2.heap.size) ⟨c2.below (bl_alloc (Below.refl _ _) _), ?_, kl2.below (bl_alloc (Below.refl _ _) _), ((HB.out.trans b2 (fun _ _ h => h)).alloc _), by rw [← HZ.out]; exact z2⟩ ?_
  · exact World.rowIs_alloc w2 #[_] _ _ (fun i hi => by simp at hi; subst hi; rfl)
  rintro X ⟨c3, r3, k3, b3, z3⟩
  clear c' mk own gr b2 z2 c2 kl2 hln p3 HB HZ
  generalize w2.heap.size = bK at *
  generalize (some (⟨w1.heap.size, 0, none⟩ : Addr)) = vK at *
  go_wp2_with (go_at_call 34; refine (all_any p X).mono ?_; rintro e w' ⟨rfl, rfl⟩)
  have k4 : KJ S w p rm bm h m L bK X.heap.size 0 (X.alloc (.cells #[.pointer (some ⟨p, 4, none⟩)] 96)) := by
    refine ⟨c3.below (bl_alloc (Below.refl _ _) _), ⟨vK, N, [], r3.alloc _, k3.below (bl_alloc (Below.refl _ _) _)⟩, b3.alloc _, World.rowIs_alloc X #[_] _ _ (fun i hi => by simp at hi; subst hi; rfl)⟩
  have hb3 := b3.size
  have hz4 : (X.alloc (.cells #[.pointer (some ⟨p, 4, none⟩)] 96)).heap.size = X.heap.size + 1 := by simp
  clear r3 k3 b3
  generalize X.alloc (.cells #[.pointer (some ⟨p, 4, none⟩)] 96) = X4 at *
  generalize X.heap.size = rb at *
  have hinj := bl_inj c3.rw.nd
  have hput : ∀ i (W : World) (l : Nat) (o o' : Obj), X4.heap.size ≤ l → W.heap[l]? = some o → o.isCells = false → KJ S w p rm bm h m L bK rb i W → KJ S w p rm bm h m L bK rb i (W.putObj l o') := fun i W l o o' hl ho hc k => by
    have hlw : w.heap.size ≤ l := by omega
    refine k.put (fun b ⟨C, t, c, e⟩ => World.putObj_heap_other (fun e' => ?_)) (World.putObj_heap_other (fun e' => ?_)) (k.bp.trans (BP.grown (grownBy_putObj' W l o')) (fun x hx e => by cases e; omega))
    · subst e'; rw [e] at ho; cases ho; cases hc
    · have := HSI.out _ k.ch.sm; omega
  have HPUT := hid1 hput
  refine (wpIn_wide (n := 10)).1 (range_rounds (gf := 51) (lb := #[.pointer (some ⟨rb, 0, none⟩)]) rfl (enters_of Try.func51 (by kernel_rfl) rfl) N (fun i => #[.pointer (some ⟨bl L i, 0, none⟩)]) (fun _ => rfl) (KJ S w p rm bm h m L bK rb) ?hJ ?hJa ?hcall ?a1 ?assign ?body ?done)
  case hJ =>
    exact fun i W l o o' hl ho hc k => HPUT.out i W l o o' hl ho hc k
  case hJa =>
    intro o o'
    have hb : Below X4.heap.size X4 ((X4.alloc o).alloc o') := bl_alloc (bl_alloc (Below.refl _ _) _) _
    refine k4.put (fun b ⟨C, t, c, e⟩ => hb.block b (Array.getElem?_eq_some_iff.1 e).1) (hb.block _ k4.ch.mp.lt) (k4.bp.step hb)
  case hcall =>
    intro l K W hKJ h0 hY
    rw [← hN] at *
    exact rall1_in _ l rb p L.length (by decide) (bl L) hinj K (fun i W hk => (hKJ i W hk).it1) hY W h0
  case assign =>
    intro l i W K hK
    gi_wp2
    exact hK
  case body =>
    intro l i W hi k
    obtain ⟨ao, cap, ss, r, kl⟩ := k.ks
    have hiL : i < L.length := by omega
    obtain ⟨p', re⟩ := seg_nx k.ch.rw.seg i hiL
    have e0 : W.cell? ⟨L[i].b, 0, none⟩ = some (.string L[i].k) := re.cell (i := 0) (by omega)
    rw [← bl_lt hiL] at e0
    generalize hbi : bl L i = bi at *
    have HBI := hid1 hbi
    clear hbi
    obtain ⟨kk, hkk⟩ : ∃ kk, L[i].k = kk := ⟨_, rfl⟩
    rw [hkk] at e0
    obtain ⟨cp, bw, hcv, hbw⟩ := conv_bytes kk
    have r0 := r.cell (i := 0) (by omega)
    have rf0 := r.frozen 0
    have hbW : Below W.heap.size W W.drew := (Below.refl _ _).drew
    obtain ⟨bA, zA, kbA⟩ := hbw W.drew
    have hA : Below W.heap.size W (bw W.drew) := bl_step hbW bA
    have kb2 := (kbA.block (w' := (bw W.drew).alloc (.cells #[.slice (some ⟨W.drew.heap.size, 0, none⟩) kk.size (cp W.drew)] 28)) fun b hb => Below.heap_alloc _ _ _ (kbA.lt b hb).2)
    have kl2 := (kl.below hA).below (bl_alloc (Below.refl _ (bw W.drew)) (.cells #[.slice (some ⟨W.drew.heap.size, 0, none⟩) kk.size (cp W.drew)] 28))
    have hMz : w.heap.size ≤ W.heap.size := k.bp.size
    have kb3 : Kb ((bw W.drew).alloc (.cells #[.slice (some ⟨W.drew.heap.size, 0, none⟩) kk.size (cp W.drew)] 28)) w.heap.size (.slice (some ⟨W.drew.heap.size, 0, none⟩) kk.size (cp W.drew)) kk := by
      obtain ⟨g, cap, C, e, h1, h2⟩ := kb2
      exact ⟨g, cap, C, e, Nat.le_trans hMz h1, h2⟩
    have hnew : ∀ u ∈ ss, u.ownBlock ≠ (Value.slice (some ⟨W.drew.heap.size, 0, none⟩) kk.size (cp W.drew)).ownBlock := fun u hu e => by
      obtain ⟨j, hj, rfl⟩ := List.mem_iff_getElem.1 hu
      have hj2 : j < ((L.map (·.k)).take i).length := by rw [← kl.len]; exact hj
      have := (kl.key j _ _ (List.getElem?_eq_getElem hj2) (List.getElem?_eq_getElem hj)).lt _ e
      have : W.heap.size < W.heap.size := this.2
      omega
    have HK := hid1 (fun (w3 : World) (v' : Value) h3 hg => k.step (A := bw W.drew) (w3 := w3) (v' := v') (y := .slice (some ⟨W.drew.heap.size, 0, none⟩) kk.size (cp W.drew)) (ob := .cells #[.slice (some ⟨W.drew.heap.size, 0, none⟩) kk.size (cp W.drew)] 28) HSI.out hiL r kl hA h3 hg z3 X4.heap.size)
    rw [hkk] at HK
    have hlk : ((L.map (·.k)).take i).length ≤ 16777216 := by simp; omega
    obtain ⟨Y, hY⟩ : ∃ Y, Value.slice (some ⟨W.drew.heap.size, 0, none⟩) kk.size (cp W.drew) = Y := ⟨_, rfl⟩
    have hS0 : W.drew.cell? ⟨bi, 0, none⟩ = some (.string kk) := e0
    have hS1 : (bw W.drew).cell? ⟨bi, 0, none⟩ = some (.string kk) := keepc hA e0
    have hS2 := old_cell hS1 (.cells #[.slice (some ⟨W.drew.heap.size, 0, none⟩) kk.size (cp W.drew)] 28)
    have hrA : (bw W.drew).cell? ⟨bK, 0, none⟩ = some (.slice ao i cap) := keepc hA r0
    have hlt1 : bK < (bw W.drew).heap.size := lt_of_cell hrA
    have hlt2 : bK ≠ (bw W.drew).heap.size := by omega
    have hrB := old_cell hrA (.cells #[.slice (some ⟨W.drew.heap.size, 0, none⟩) kk.size (cp W.drew)] 28)
    have hcn := new_cell (bw W.drew) (.slice (some ⟨W.drew.heap.size, 0, none⟩) kk.size (cp W.drew)) 28
    have key0 : ∀ X : World, X.rowIs L[i].b 81 5 (ef L[i] p' (nx (bl L) L.length (i + 1))) → X.cell? ⟨bi, 0, none⟩ = some (.string kk) := fun X r => by rw [← HBI.out, bl_lt hiL, ← hkk]; exact r.cell (i := 0) (by omega)
    have HS3 := hid1 (fun (w3 : World) (v' : Value) h3 hg => let q := HK.out w3 v' h3 hg
      And.intro (key0 _ (q.2.1 re (by decide))) (And.intro ((q.2.1 r (by decide)).cell (i := 0) (by omega)) (And.intro ((q.2.1 r (by decide)).frozen 0) (key0 _ ((q.2.1 re (by decide)).setOther (a := ⟨bK, 0, none⟩) (row_ne re r (by decide)) v')))))
    have HKB := hid1 kb3
    have HKL := hid1 kl2
    have HNW := hid1 hnew
    have hzz : w.heap.size ≤ ((bw W.drew).alloc (.cells #[.slice (some ⟨W.drew.heap.size, 0, none⟩) kk.size (cp W.drew)] 28)).heap.size := Nat.le_trans hMz (bl_alloc hA _).size
    clear kb2 kb3 kl2 hnew hbw kbA bA zA re r kl k
    gi_wp2
    refine regionA (by kernel_rfl) (noOutA_block noOutA) (wpAny_of_held (S := fun Y => Y.cell? ⟨bi, 0, none⟩ = some (.string kk)) _ _ _ _ ?_)
    refine wpAnyH_take (i := 1) (v := .pointer (some ⟨bi, 0, none⟩)) rfl (by kernel_rfl) (by kernel_rfl) (by kernel_rfl) (fun _ _ _ h => h) (Or.inl ⟨by rfl, fun w hSw => by (try dsimp only at hSw); go_simp⟩) hS0 ?_
    simp only [Act.put]
    refine wpAnyH_take (i := 2) (v := .pointer (some ⟨bi, 0, none⟩)) rfl (by kernel_rfl) (by kernel_rfl) (by kernel_rfl) (fun _ _ _ h => h) (Or.inl ⟨by rfl, fun w hSw => by (try dsimp only at hSw); go_simp⟩) hS0 ?_
    simp only [Act.put]
    refine wpAnyH_take (i := 3) (v := .pointer (some ⟨bi, 0, none⟩)) rfl (by kernel_rfl) (by kernel_rfl) (by kernel_rfl) (fun _ _ _ h => h) (Or.inl ⟨by rfl, fun w hSw => by (try dsimp only at hSw); go_simp⟩) hS0 ?_
    simp only [Act.put]
    refine wpAnyH_take (i := 4) (v := .string kk) rfl (by kernel_rfl) (by kernel_rfl) (by kernel_rfl) (fun _ _ _ h => h) (Or.inl ⟨by rfl, fun w hSw => by (try dsimp only at hSw); go_simp⟩) hS0 ?_
    simp only [Act.put, List.setIfInBounds_toArray]
    refine wpAnyH_ready (rs := [0, 5]) (by kernel_rfl) (by simp) ?_
    refine AllReadyH.cons rfl (fun K hK => ?_) ?_
    · go_simp
      refine hK.out _ _ hS0 (fun _ => ?_)
      clear hK K
      refine wpAnyH_ready (rs := [5]) (by kernel_rfl) (by simp) ?_
      refine AllReadyH.cons rfl (fun K hK => ?_) ?_
      · go_simp
        refine hK.out _ _ hS1 (fun _ => ?_)
        clear hK K
        refine wpAnyH_ready (rs := [6]) (by kernel_rfl) (by simp) ?_
        refine AllReadyH.cons rfl (fun K hK => ?_) ?_
        · go_simp
          refine hK.out _ _ hS2 (fun _ => ?_)
          clear hK K
          refine wpAnyH_ready (rs := [7]) (by kernel_rfl) (by simp) ?_
          refine AllReadyH.cons rfl (fun K hK => ?_) ?_
          · refine step_appK rfl _ _ rfl w.heap.size (.slice ao i cap) _ ss rfl HKL.out (.slice (some ⟨W.drew.heap.size, 0, none⟩) kk.size (cp W.drew)) kk HKB.out HNW.out _ rfl hcn hlk hzz ?_
            intro v' w3 hk3 hg
            obtain ⟨HF, -, HE⟩ := HK.out w3 v' hk3 hg
            have HS := HS3.out w3 v' hk3 hg
            obtain ⟨va, vc, rfl⟩ := HF
            have s1 := HS.2.1
            have s2 := HS.2.2.1
            refine hK.out _ _ HS.1 (fun _ => ?_)
            clear hK K
            simp only [Act.put, List.setIfInBounds_toArray]
            refine wpAnyH_ready (rs := [8]) (by kernel_rfl) (by simp) ?_
            refine AllReadyH.cons rfl (fun K hK => ?_) ?_
            · go_simp
              refine hK.out _ _ HS.2.2.2 (fun _ => ?_)
              clear hK K
              refine wpAnyH_done (by kernel_rfl) ?_ _
              exact ⟨HE.1, HE.2⟩
            exact AllReadyH.nil
          exact AllReadyH.nil
        exact AllReadyH.nil
      exact AllReadyH.nil
    refine AllReadyH.cons rfl (fun K hK => ?_) ?_
    · go_simp
      refine hK.out _ _ hS1 (fun _ => ?_)
      clear hK K
      refine wpAnyH_ready (rs := [0, 6]) (by kernel_rfl) (by simp) ?_
      refine AllReadyH.cons rfl (fun K hK => ?_) ?_
      · go_simp
        refine hK.out _ _ hS1 (fun _ => ?_)
        clear hK K
        refine wpAnyH_ready (rs := [6]) (by kernel_rfl) (by simp) ?_
        refine AllReadyH.cons rfl (fun K hK => ?_) ?_
        · go_simp
          refine hK.out _ _ hS2 (fun _ => ?_)
          clear hK K
          refine wpAnyH_ready (rs := [7]) (by kernel_rfl) (by simp) ?_
          refine AllReadyH.cons rfl (fun K hK => ?_) ?_
          · refine step_appK rfl _ _ rfl w.heap.size (.slice ao i cap) _ ss rfl HKL.out (.slice (some ⟨W.drew.heap.size, 0, none⟩) kk.size (cp W.drew)) kk HKB.out HNW.out _ rfl hcn hlk hzz ?_
            intro v' w3 hk3 hg
            obtain ⟨HF, -, HE⟩ := HK.out w3 v' hk3 hg
            have HS := HS3.out w3 v' hk3 hg
            obtain ⟨va, vc, rfl⟩ := HF
            have s1 := HS.2.1
            have s2 := HS.2.2.1
            refine hK.out _ _ HS.1 (fun _ => ?_)
            clear hK K
            simp only [Act.put, List.setIfInBounds_toArray]
            refine wpAnyH_ready (rs := [8]) (by kernel_rfl) (by simp) ?_
            refine AllReadyH.cons rfl (fun K hK => ?_) ?_
            · go_simp
              refine hK.out _ _ HS.2.2.2 (fun _ => ?_)
              clear hK K
              refine wpAnyH_done (by kernel_rfl) ?_ _
              exact ⟨HE.1, HE.2⟩
            exact AllReadyH.nil
          exact AllReadyH.nil
        exact AllReadyH.nil
      refine AllReadyH.cons rfl (fun K hK => ?_) ?_
      · go_simp
        refine hK.out _ _ hS2 (fun _ => ?_)
        clear hK K
        refine wpAnyH_ready (rs := [0]) (by kernel_rfl) (by simp) ?_
        refine AllReadyH.cons rfl (fun K hK => ?_) ?_
        · go_simp
          refine hK.out _ _ hS2 (fun _ => ?_)
          clear hK K
          refine wpAnyH_ready (rs := [7]) (by kernel_rfl) (by simp) ?_
          refine AllReadyH.cons rfl (fun K hK => ?_) ?_
          · refine step_appK rfl _ _ rfl w.heap.size (.slice ao i cap) _ ss rfl HKL.out (.slice (some ⟨W.drew.heap.size, 0, none⟩) kk.size (cp W.drew)) kk HKB.out HNW.out _ rfl hcn hlk hzz ?_
            intro v' w3 hk3 hg
            obtain ⟨HF, -, HE⟩ := HK.out w3 v' hk3 hg
            have HS := HS3.out w3 v' hk3 hg
            obtain ⟨va, vc, rfl⟩ := HF
            have s1 := HS.2.1
            have s2 := HS.2.2.1
            refine hK.out _ _ HS.1 (fun _ => ?_)
            clear hK K
            simp only [Act.put, List.setIfInBounds_toArray]
            refine wpAnyH_ready (rs := [8]) (by kernel_rfl) (by simp) ?_
            refine AllReadyH.cons rfl (fun K hK => ?_) ?_
            · go_simp
              refine hK.out _ _ HS.2.2.2 (fun _ => ?_)
              clear hK K
              refine wpAnyH_done (by kernel_rfl) ?_ _
              exact ⟨HE.1, HE.2⟩
            exact AllReadyH.nil
          exact AllReadyH.nil
        exact AllReadyH.nil
      exact AllReadyH.nil
    exact AllReadyH.nil
  case done =>
    intro D W hD k hd
    dsimp only
    obtain ⟨ao, cap, ss, r, kl⟩ := k.ks
    have r0 := r.cell (i := 0) (by omega)
    go_wp2_with fail
    have k' := HPUT.out N W D _ (.deferred none) hD hd rfl k
    have hk := put_cells (o' := .deferred none) hd rfl
    have kl' := kl.block (w' := W.putObj D (.deferred none)) fun b _ _ ⟨C, c, t, e, _⟩ => hk b ⟨C, t, c, e⟩
    have k0 := k'.ch.lock 0
    have hpu : ∀ b, (∃ C c t, (W.putObj D (.deferred none)).heap[b]? = some (.cells C t c) ∧ (t = 5 ∨ t = 28)) → b ≠ p := fun b ⟨C, c, t, e, ht⟩ e' => by
      subst e'
      obtain ⟨C', e2, _⟩ := k'.ch.rw.box
      rw [e2] at e
      injection e with e
      injection e with _ e _
      subst e
      rcases ht with h | h <;> exact absurd h (by decide)
    refine doorM (.slice ao N cap) hd (k'.ch.rw.box.cell (i := 1) (by omega)) (k'.ch.rw.box.frozen 1) (by simp [results, Try.results12, go_sem]) ⟨_, ss, rfl, ?_, k0, k'.bp.setA (a := ⟨p, 1, none⟩) k'.ch.sp _⟩
    have e1 : (L.map (·.k)).take N = L.map (·.k) := List.take_of_length_le (by simp [hN])
    rw [e1] at kl'
    exact kl'.block fun b _ _ h => set_other (hpu b h)
end Go.Proofs.Ytpjcpikafpnmpaa
