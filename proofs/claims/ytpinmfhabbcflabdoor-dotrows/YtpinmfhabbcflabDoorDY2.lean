/- DotRows: both Packs. -/
import Derived.Test.YtpinmfhabbcflabDoorDY1
import Derived.Deep.DeepCutAuto
namespace Go.Proofs.YtpinmfhabbcflabDoor
open Go.RowKit

def wokB (l : List Int) (N : Nat) : Bool := (List.range N).all fun i => decide (-1 ≤ ia l i ∧ ia l i ≤ 1)
theorem wokB_iff (l : List Int) (N : Nat) : wokB l N = true ↔ Wok l N := by simp [wokB, Wok, List.all_eq_true]
/-- What Pack answers. -/
def pkE (l : List Int) (N : Nat) : Int := if 16777216 < N then 2 else if wokB l N = true then 0 else 52
def pkn (l : List Int) (N : Nat) : Nat := if pkE l N = 0 then N else 0
def pkS (l : List Int) (N : Nat) : Nat := if pkE l N = 0 then pk l N else 0
def pkM (l : List Int) (N : Nat) : Nat := if pkE l N = 0 then bn (nz l) N else 0
def Ex2 (l : List Int) (N : Nat) (S M : Bt) : Prop := (S.n = pkn l N ∧ S.m = nw (pkn l N) ∧ S.N = pkS l N) ∧ (M.n = pkn l N ∧ M.m = nw (pkn l N) ∧ M.N = pkM l N)
theorem pk_good {l : List Int} {N : Nat} (h1 : N ≤ 16777216) (h : Wok l N) : pkE l N = 0 := by unfold pkE; rw [if_neg (by omega), if_pos ((wokB_iff l N).2 h)]
theorem pk_wrong {l : List Int} {N : Nat} (h1 : N ≤ 16777216) (h : ¬ Wok l N) : pkE l N = 52 := by unfold pkE; rw [if_neg (by omega), if_neg (fun k => h ((wokB_iff l N).1 k))]
theorem pk_long {l : List Int} {N : Nat} (h1 : 16777216 < N) : pkE l N = 2 := by unfold pkE; rw [if_pos h1]
theorem ex2_good {l : List Int} {N : Nat} {a b : Option Addr} {ca cb : Nat} (h : pkE l N = 0) : Ex2 l N ⟨N, a, nw N, ca, pk l N⟩ ⟨N, b, nw N, cb, bn (nz l) N⟩ := by
  unfold Ex2 pkn pkS pkM
  rw [if_pos h, if_pos h, if_pos h]
  exact ⟨⟨rfl, rfl, rfl⟩, rfl, rfl, rfl⟩
theorem ex2_zero {l : List Int} {N : Nat} (h : pkE l N ≠ 0) : Ex2 l N zb zb := by
  unfold Ex2 pkn pkS pkM
  rw [if_neg h, if_neg h, if_neg h]
  exact ⟨⟨rfl, rfl, rfl⟩, rfl, rfl, rfl⟩
theorem Rw.ru {w : World} {b : Bt} (h : Rw w b) : RU w b.ao b.m b.N := h.2.2
theorem ru_zb (w : World) : RU w zb.ao zb.m zb.N := fun k hk => absurd hk (by simp [zb])
theorem pack_w (l : List Int) (N : Nat) (hN : l.length = N) (ao : Option Addr) (cap : Nat) (w : World) (h2 : N ≤ 9223372036854775807) (h : R8 w ao l) :
    Calls Tryd.prog 14 #[.slice ao N cap] w fun e w' => ∃ S M, e = .returned (.tuple #[rwv S M, .int .i64 (pkE l N)]) ∧ Ex2 l N S M ∧ RU w' S.ao S.m S.N ∧ RU w' M.ao M.m M.N ∧ Below w.heap.size w w' := by
  by_cases h1 : N ≤ 16777216
  · refine (dpack_any l N hN ao cap w h1 h).mono ?_
    rintro e w' (⟨hw, g1, g2, rfl, _, _, r1, r2, hb⟩ | ⟨hw, rfl, hb⟩)
    · have hE := pk_good h1 hw
      refine ⟨_, _, by rw [hE], ex2_good hE, fun k hk => ⟨g1, 0, rfl, ?_⟩, fun k hk => ⟨g2, 0, rfl, ?_⟩, hb⟩
      · rw [Nat.zero_add]; exact r1.cell hk
      · rw [Nat.zero_add]; exact r2.cell hk
    · have hE := pk_wrong h1 hw
      exact ⟨zb, zb, by rw [hE], ex2_zero (by rw [hE]; omega), ru_zb w', ru_zb w', hb⟩
  · refine (dpack_long N ao cap w (by omega) h2).mono ?_
    rintro e w' ⟨rfl, hb⟩
    have hE : pkE l N = 2 := pk_long (by omega)
    exact ⟨zb, zb, by rw [hE], ex2_zero (by rw [hE]; omega), ru_zb w', ru_zb w', hb⟩
theorem sign_pk {l : List Int} {N : Nat} (h : Wok l N) : bn (fun i => ia l i == 1) N = pk l N := by
  refine bn_ext (pk_lt l N) fun i hi => ?_
  rw [pk_bit]
  have := h i hi
  simp [hi]
  by_cases e : ia l i = 1
  · simp [e]
  · have : ¬ 0 < ia l i := by omega
    simp [e, this]
theorem some_nz (l : List Int) (N : Nat) : bn (fun i => ia l i != 0) N = bn (nz l) N := by
  refine bn_ext (bn_lt _ _) fun i hi => ?_
  rw [bn_bit]
  simp [hi, nz]
  by_cases e : ia l i = 0 <;> simp [e]
/-- The two lists of truth values, as far as they are made. -/
structure Tb (w wr : World) (u v : Value) (l : List Int) (k1 k2 : Nat) : Prop where
  s : wr.ownsRow (w.heap.size + 1) 4 1 u k1 (bls (fun i => ia l i == 1) k1)
  m : wr.ownsRow (w.heap.size + 1) 4 1 v k2 (bls (fun i => ia l i != 0) k2)
  ne : u.ownBlock = none ∨ u.ownBlock ≠ v.ownBlock
  z : wr.rowIs w.heap.size 33 4 (qf zb zb)
  b : Below w.heap.size w wr
theorem app_boolAt {ops : Array Oper} {rest : List Oper} {o : Oper} {a : Act} {Q : Exit → Act → World → Prop} {w : World} (hgd : o.guard = none) (s x : Operand)
    (ho : o.op = .call { callee := .builtin .append, args := #[s, x], argTypes := #[76, 76] }) (base : Nat) (v : Value) (f : Nat → Bool) (n : Nat) (hs : a.eval s = v) (hown : w.ownsRow base 4 1 v n (bls f n))
    (g : Nat) (y : Bool) (cb : Nat) (hx : a.eval x = .slice (some ⟨g, 0, none⟩) 1 cb) (hr : w.cell? ⟨g, 0, none⟩ = some (.bool y)) (hM : n ≤ 16777216) (hb : base ≤ w.heap.size) (hy : y = f n)
    (h : ∀ v' w', w'.ownsRow base 4 1 v' (n + 1) (bls f (n + 1)) → w.grownBy w' v.ownBlock → (v'.ownBlock = v.ownBlock ∨ v'.ownBlock = some w.heap.size) → wpList Tryd.prog ops Q rest (a.put o.dst v') w') : wpList Tryd.prog ops Q (o :: rest) a w := by
  obtain ⟨i0, hi, hz0, hz1, hz2⟩ := info_parts info_bool
  refine wpList_append_own_at w hgd s x _ ho base 4 i0 (.bool false) 1 1 und_bools hi hz0 hz1 hz2 rfl (by decide) v n (bls f n) hs hown ⟨g, 0, none⟩ 1 cb [.bool y] hx rfl
    (fun j u hu => ?_) (fun u hu => by simp at hu; subst hu; rfl) (by unfold maxLen; omega) (by omega) hb ?_
  · rcases j with _ | j
    · simp at hu; subst hu; exact hr
    · simp at hu
  · intro v' w' h1 h2 _ h4
    subst hy
    exact h v' w' (by rw [bls_snoc]; exact h1) h2 h4
theorem Tb.onS {w wr w' : World} {u v u' : Value} {l : List Int} {k1 k2 : Nat} {o : Obj} (h : Tb w wr u v l k1 k2) (hown : w'.ownsRow (w.heap.size + 1) 4 1 u' (k1 + 1) (bls (fun i => ia l i == 1) (k1 + 1))) (hg : (wr.alloc o).grownBy w' u.ownBlock) (hat : u'.ownBlock = u.ownBlock ∨ u'.ownBlock = some (wr.alloc o).heap.size) : Tb w w' u' v l (k1 + 1) k2 := by
  have hz : w.heap.size + 1 ≤ wr.heap.size := by have := h.z.lt; omega
  have hne : v.ownBlock = none ∨ v.ownBlock ≠ u.ownBlock := by
    rcases h.ne with e | e
    · cases e2 : v.ownBlock with
      | none => exact .inl rfl
      | some q => right; rw [e]; simp
    · exact .inr (Ne.symm e)
  refine ⟨hown, (h.m.alloc o).kept hg hne, ?_, row_grown (h.z.alloc o) (h.s.alloc o) hg (by decide), h.b.trans ((grown_below h.s hz hg).mono (by omega))⟩
  rcases hat with e | e
  · rw [e]; exact h.ne
  · right
    rw [e]
    intro e1
    have := (h.m.alloc o).lt _ e1.symm
    omega
theorem Tb.onM {w wr w' : World} {u v v' : Value} {l : List Int} {k1 k2 : Nat} {o : Obj} (h : Tb w wr u v l k1 k2) (hown : w'.ownsRow (w.heap.size + 1) 4 1 v' (k2 + 1) (bls (fun i => ia l i != 0) (k2 + 1))) (hg : (wr.alloc o).grownBy w' v.ownBlock) (hat : v'.ownBlock = v.ownBlock ∨ v'.ownBlock = some (wr.alloc o).heap.size) : Tb w w' u v' l k1 (k2 + 1) := by
  have hz : w.heap.size + 1 ≤ wr.heap.size := by have := h.z.lt; omega
  refine ⟨(h.s.alloc o).kept hg h.ne, hown, ?_, row_grown (h.z.alloc o) (h.m.alloc o) hg (by decide), h.b.trans ((grown_below h.m hz hg).mono (by omega))⟩
  rcases hat with e | e
  · rw [e]; exact h.ne
  · right
    rw [e]
    intro e1
    have := (h.s.alloc o).lt _ e1
    omega
theorem row_word {w : World} {b g j v : Nat} {A B : Bt} (h : w.rowIs b 33 4 (qf A B)) (hc : w.cell? ⟨g, j, none⟩ = some (.int .u64 (v : Int))) : g ≠ b := by
  rintro rfl
  by_cases hj : j < 4
  · have h2 := h.cell hj
    rw [h2] at hc
    unfold qf at hc
    repeat (split at hc <;> try simp at hc)
  · obtain ⟨c, hb, hn, _⟩ := h
    have : w.cell? ⟨g, j, none⟩ = none := by
      simp [World.cell?, hb]
      omega
    rw [this] at hc
    cases hc
theorem RU.set4 {w : World} {b m N : Nat} {ao : Option Addr} {A B : Bt} (h : RU w ao m N) (r : w.rowIs b 33 4 (qf A B)) (v0 v1 v2 v3 : Value) : RU ((((w.setCell ⟨b, 0, none⟩ v0).setCell ⟨b, 1, none⟩ v1).setCell ⟨b, 2, none⟩ v2).setCell ⟨b, 3, none⟩ v3) ao m N := fun k hk => by
  obtain ⟨g, o, e, c⟩ := h k hk
  have hne : g ≠ b := row_word r c
  refine ⟨g, o, e, ?_⟩
  rw [World.cell?_of_block (Below.heap_setCell _ ⟨b, 3, none⟩ _ g hne), World.cell?_of_block (Below.heap_setCell _ ⟨b, 2, none⟩ _ g hne), World.cell?_of_block (Below.heap_setCell _ ⟨b, 1, none⟩ _ g hne), World.cell?_of_block (Below.heap_setCell _ ⟨b, 0, none⟩ _ g hne)]
  exact c
set_option maxHeartbeats 3200000 in
set_option maxRecDepth 100000 in
theorem rpack_w (l : List Int) (N : Nat) (hN : l.length = N) (ao : Option Addr) (cap : Nat) (w : World) (h2 : N ≤ 9223372036854775807) (h : R8 w ao l) :
    Calls Tryd.prog 15 #[.slice ao N cap] w fun e w' => ∃ S M, e = .returned (.tuple #[rwv S M, .int .i64 (pkE l N)]) ∧ Ex2 l N S M ∧ RU w' S.ao S.m S.N ∧ RU w' M.ao M.m M.N ∧ Below w.heap.size w w' := by
  have HR := hid1 h
  have EN := hid1 hN
  clear h hN
  by_cases h1 : N ≤ 16777216
  · have FIN : Hid (∀ Y, Below w.heap.size w Y → ¬ Wok l N → ∃ S M, Ending.returned (.tuple #[rwv zb zb, .int .i64 52]) = .returned (.tuple #[rwv S M, .int .i64 (pkE l N)]) ∧ Ex2 l N S M ∧ RU Y S.ao S.m S.N ∧ RU Y M.ao M.m M.N ∧ Below w.heap.size w Y) := fun Y hY hw => by
      have hE := pk_wrong h1 hw
      exact ⟨zb, zb, by rw [hE], ex2_zero (by rw [hE]; omega), ru_zb Y, ru_zb Y, hY⟩
    go_enter Tryd.func15, Tryd.ntmps15
    go_wp2_with fail
    go_loopw [4, 5, 6] (fun s4 s5 x wr => ∃ (u v : Value) (k : Nat), s4 = u ∧ s5 = v ∧ k ≤ N ∧ x = .int .i64 k ∧ (∀ j, j < k → -1 ≤ ia l j ∧ ia l j ≤ 1) ∧ Tb w wr u v l k k) (fun _ _ x _ => N - (intOf x).toNat)
    case atStart => exact ⟨_, _, 0, rfl, rfl, Nat.zero_le _, rfl, fun j hj => absurd hj (by omega), World.ownsRow_nil _ _ _ _, World.ownsRow_nil _ _ _ _, .inl rfl, q_new w zb zb _, bl_alloc (Below.refl _ _) _⟩
    case round =>
      obtain ⟨u, v, k, eu, ev, hk, rfl, hok, htb⟩ := hrel
      replace eu := eu.symm
      replace ev := ev.symm
      subst eu ev
      have HTB := hid1 htb
      have HOK := hid1 hok
      clear htb hok
      by_cases hlt : k < N
      · have kk : (k : Int) < (N : Int) := by omega
        have kk0 : (0 : Int) ≤ (k : Int) := by omega
        have hkl : k < l.length := by rw [EN.out]; exact hlt
        obtain ⟨g, o, rfl, c⟩ := HR.out.below HTB.out.b k hkl
        have sz : w.heap.size + 1 ≤ wr.heap.size := by have := HTB.out.z.lt; omega
        obtain ⟨y, ey⟩ : ∃ y, ia l k = y := ⟨_, rfl⟩
        have EY := hid1 ey
        have CK : Hid (∀ Y, Below w.heap.size w Y → Y.cell? ⟨g, o + k, none⟩ = some (.int .i8 y)) := fun Y hY => by
          obtain ⟨g', o', e', c'⟩ := HR.out.below hY k hkl
          cases e'
          rw [← EY.out]; exact c'
        rw [ey] at c
        clear ey
        by_cases hlow : y < -1
        · have HW : Hid (¬ Wok l N) := hid1 (fun hw => by have := hw k hlt; rw [EY.out] at this; omega)
          have j0 := q0 HTB.out.z
          have j1 := q1 HTB.out.z
          have j2 := q2 HTB.out.z
          have j3 := q3 HTB.out.z
          have f0 := HTB.out.z.frozen 0
          have f1 := HTB.out.z.frozen 1
          have f2 := HTB.out.z.frozen 2
          have f3 := HTB.out.z.frozen 3
          have hzl := HTB.out.z.lt
          unfold zb at j0 j1 j2 j3
          dsimp only at j0 j1 j2 j3
          have HB := hid1 HTB.out.b
          go_wp2_with fail
          exact bodyPost_ret (v := .tuple #[rwv zb zb, .int .i64 52]) (by simp [results, Tryd.results15, go_sem, zb, j0, j1, j2, j3]) rfl (FIN.out _ (bl_set (bl_set (bl_set (bl_set HB.out (Nat.le_refl _) _) (Nat.le_refl _) _) (Nat.le_refl _) _) (Nat.le_refl _) _) HW.out)
        by_cases hhigh : 1 < y
        · have HW : Hid (¬ Wok l N) := hid1 (fun hw => by have := hw k hlt; rw [EY.out] at this; omega)
          have hlow' : (-1 : Int) ≤ y := by omega
          clear hlow
          have j0 := q0 HTB.out.z
          have j1 := q1 HTB.out.z
          have j2 := q2 HTB.out.z
          have j3 := q3 HTB.out.z
          have f0 := HTB.out.z.frozen 0
          have f1 := HTB.out.z.frozen 1
          have f2 := HTB.out.z.frozen 2
          have f3 := HTB.out.z.frozen 3
          have hzl := HTB.out.z.lt
          unfold zb at j0 j1 j2 j3
          dsimp only at j0 j1 j2 j3
          have HB := hid1 HTB.out.b
          go_wp2_with fail
          exact bodyPost_ret (v := .tuple #[rwv zb zb, .int .i64 52]) (by simp [results, Tryd.results15, go_sem, zb, j0, j1, j2, j3]) rfl (FIN.out _ (bl_set (bl_set (bl_set (bl_set HB.out (Nat.le_refl _) _) (Nat.le_refl _) _) (Nat.le_refl _) _) (Nat.le_refl _) _) HW.out)
        have hlow' : (-1 : Int) ≤ y := by omega
        have hhigh' : y ≤ 1 := by omega
        have HY1 : Hid ((y == 1) = (fun i => ia l i == 1) k) := hid1 (by dsimp only; rw [EY.out])
        have HY2 : Hid ((y != 0) = (fun i => ia l i != 0) k) := hid1 (by dsimp only; rw [EY.out])
        clear hlow hhigh
        go_upto_region 11 with (at_builtin; refine app_boolAt rfl _ _ rfl (w.heap.size + 1) u (fun i => ia l i == 1) k (by go_simp) (HTB.out.s.alloc _) wr.heap.size (y == 1) 1 (by go_simp) (by simp [go_sem]) (by omega) (by simp; omega) HY1.out ?_; intro u' w2 hown hgrow hat)
        have HT2 := hid1 (HTB.out.onS hown hgrow hat)
        clear HTB hown hgrow hat c sz
        have c := CK.out w2 HT2.out.b
        have sz : w.heap.size + 1 ≤ w2.heap.size := by have := HT2.out.z.lt; omega
        go_wp2_with (at_builtin; refine app_boolAt rfl _ _ rfl (w.heap.size + 1) v (fun i => ia l i != 0) k (by go_simp) (HT2.out.m.alloc _) w2.heap.size (y != 0) 1 (by go_simp) (by simp [go_sem]) (by omega) (by simp; omega) HY2.out ?_; intro v' w3 hown hgrow hat)
        exact ⟨⟨u', v', k + 1, rfl, rfl, by omega, by go_num, fun j hj => by
          by_cases e : j = k
          · subst e; rw [EY.out]; exact ⟨hlow', hhigh'⟩
          · exact HOK.out j (by omega), HT2.out.onM hown hgrow hat⟩, by simp [intOf]; omega⟩
      · have hkN : k = N := by omega
        subst hkN
        have hw : Wok l k := HOK.out
        have hE := pk_good h1 hw
        have hsp := sign_pk hw
        have hsn := some_nz l k
        obtain ⟨a1, ca1, eu, rb1⟩ := rb_own HTB.out.s
        obtain ⟨a2, ca2, ev, rb2⟩ := rb_own HTB.out.m
        subst eu ev
        have HZ := hid1 HTB.out.z
        have HB := hid1 HTB.out.b
        have HB2 := hid1 rb2
        have HEx := hid1 (fun a b ca cb => ex2_good (a := a) (b := b) (ca := ca) (cb := cb) hE)
        have HE := hid1 hE
        clear HTB HR EN FIN HOK hw hE
        have CS1 := setL_any (fun i => ia l i == 1) k a1 ca1 wr h1 rb1
        rw [hsp] at CS1
        clear rb1
        go_wp2_with fail
        refine CS1.mono ?_
        rintro e w1 ⟨b1, cb1, rfl, own1, hb1⟩
        have RU1 := hid1 (Rw.ru (rw_own own1 (pk_lt l k) h1))
        have HZ1 := hid1 (keepr hb1 HZ.out)
        have HB1 := hid1 (bl_step HB.out hb1)
        have CS2 := setL_any (fun i => ia l i != 0) k a2 ca2 w1 h1 (HB2.out.below hb1)
        rw [hsn] at CS2
        clear own1 hb1 HZ HB HB2 CS1
        go_wp2_with fail
        refine CS2.mono ?_
        rintro e w2 ⟨b2, cb2, rfl, own2, hb2⟩
        have RU2 := hid1 (Rw.ru (rw_own own2 (bn_lt _ _) h1))
        have RU12 := hid1 (RU1.out.below hb2)
        have HZ2 := hid1 (keepr hb2 HZ1.out)
        have HBz := hid1 (bl_step HB1.out hb2)
        clear own2 hb2 CS2 HZ1 HB1 RU1
        have j0 := q0 HZ2.out
        have j1 := q1 HZ2.out
        have j2 := q2 HZ2.out
        have j3 := q3 HZ2.out
        have f0 := HZ2.out.frozen 0
        have f1 := HZ2.out.frozen 1
        have f2 := HZ2.out.frozen 2
        have f3 := HZ2.out.frozen 3
        have hzl := HZ2.out.lt
        unfold zb at j0 j1 j2 j3
        dsimp only at j0 j1 j2 j3
        go_wp2_with fail
        exact bodyPost_ret (v := .tuple #[rwv ⟨k, b1, nw k, cb1, pk l k⟩ ⟨k, b2, nw k, cb2, bn (nz l) k⟩, .int .i64 0]) (by simp [results, Tryd.results15, go_sem, j0, j1, j2, j3]) rfl ⟨_, _, by rw [HE.out], HEx.out b1 b2 cb1 cb2, RU12.out.set4 HZ2.out _ _ _ _, RU2.out.set4 HZ2.out _ _ _ _, bl_set (bl_set (bl_set (bl_set HBz.out (Nat.le_refl _) _) (Nat.le_refl _) _) (Nat.le_refl _) _) (Nat.le_refl _) _⟩
  · have hE : pkE l N = 2 := pk_long (by omega)
    rw [hE]
    have hEx := hid1 (ex2_zero (l := l) (N := N) (by rw [hE]; omega))
    clear hE HR EN
    go_enter Tryd.func15, Tryd.ntmps15
    go_wp2
    refine bodyPost_ret (v := .tuple #[rwv zb zb, .int .i64 2]) (by simp [results, Tryd.results15, go_sem, zb]) rfl ⟨zb, zb, rfl, hEx.out, ru_zb _, ru_zb _, ?_⟩
    repeat (first | exact Below.refl _ _ | refine bl_alloc ?_ _ | refine bl_set ?_ (by omega) _)
end Go.Proofs.YtpinmfhabbcflabDoor
