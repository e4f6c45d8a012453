/- CHUNKALL: the Hand's filled. -/
import Derived.Test.YtbpglkhgggokcaaDoorCH1
namespace Go.Proofs.YtbpglkhgggokcaaDoor
open Go.RowKit

theorem meet_of {J K : Act → World → Prop} {Q : Exit → Act → World → Prop} {a : Act} {w : World} (hK : ∀ a' w', Met J a' w' → K a' w') (h : Met J a w) : Exit.then K Q Exit.normal a w := hK _ _ h
theorem own_row {w : World} {base e : Nat} {v : Value} {n : Nat} {xs : List Value} (h : w.ownsRow base e 1 v n xs) (hn : 0 < n) :
    ∃ g cap f, v = .slice (some ⟨g, 0, none⟩) n cap ∧ base ≤ g ∧ n ≤ cap ∧ cap ≤ maxLen ∧ w.rowIs g e cap f ∧ ∀ k, k < n → xs[k]? = some (f k) := by
  rcases h.2 with ⟨_, h0⟩ | ⟨g, cap, cur, hv, hb, hg, h4, h5, h6, h7⟩
  · omega
  · refine ⟨g, cap, fun k => cur[k]?.getD undef, hv, hb, h4, h5, ⟨cur, hg, by omega, fun i hi => ?_⟩, fun k hk => ?_⟩
    · simp [Array.getElem?_eq_getElem (show i < cur.size by omega)]
    · rw [← h7, Nat.mul_one, List.getElem?_take_of_lt hk]
      simp [Array.getElem?_eq_getElem (show k < cur.size by omega)]
/-- Own memory of the law: nothing, or a whole block. -/
def Om (w : World) (T : TypeId) (v : Value) (go : Nat) : Prop := v = .slice none 0 0 ∨ ∃ co f, v = .slice (some ⟨go, 0, none⟩) co co ∧ w.rowIs go T co f ∧ co ≤ maxLen
/-- Since w0 only the block go has turned, and v lies there or in new memory. -/
structure Mv (w0 : World) (go : Nat) (w : World) (v : Value) : Prop where
  but : BP (· = go) w0 w
  at_ : v.ownBlock = none ∨ v.ownBlock = some go ∨ ∃ b, v.ownBlock = some b ∧ w0.heap.size ≤ b
theorem Mv.app {w0 w w' : World} {go : Nat} {v v' : Value} (h : Mv w0 go w v) (hg : w.grownBy w' v.ownBlock) (hv : v'.ownBlock = v.ownBlock ∨ v'.ownBlock = some w.heap.size) : Mv w0 go w' v' := by
  refine ⟨h.but.trans (BP.grown hg) fun x hx he => ?_, ?_⟩
  · rcases h.at_ with h1 | h1 | ⟨b, h1, h2⟩
    · rw [h1] at he; cases he
    · rw [h1] at he; injection he
    · rw [h1] at he; injection he with he; omega
  · rcases hv with e | e
    · rw [e]; exact h.at_
    · exact .inr (.inr ⟨_, e, h.but.size⟩)
theorem Mv.alloc {w0 w : World} {go : Nat} {v : Value} (h : Mv w0 go w v) (o : Obj) : Mv w0 go (w.alloc o) v := ⟨h.but.alloc o, h.at_⟩
theorem own_none {w : World} {T go co : Nat} {f : Nat → Value} (h : w.rowIs go T co f) (hc : co ≤ maxLen) : w.ownsRow 0 T 1 (.slice (some ⟨go, 0, none⟩) 0 co) 0 (u8s []) := by
  obtain ⟨c, hb, hn, _⟩ := h
  exact ⟨rfl, .inr ⟨go, co, c, rfl, Nat.zero_le _, hb, Nat.zero_le _, hc, by omega, by simp [u8s]⟩⟩
/-- 'append' of bytes that lie anywhere. -/
theorem app_by {ops : Array Oper} {rest : List Oper} {o : Oper} {a : Act} {Q : Exit → Act → World → Prop} {w : World} (hgd : o.guard = none) (s x : Operand)
    (ho : o.op = .call { callee := .builtin .append, args := #[s, x], argTypes := #[25, 25] }) (w0 : World) (go : Nat) (v : Value) (n : Nat) (l : List Nat) (hs : a.eval s = v) (hown : w.ownsRow 0 5 1 v n (u8s l)) (hmv : Mv w0 go w v)
    (la : Option Addr) (m cl : Nat) (b : List Nat) (hx : a.eval x = .slice la m cl) (hm : b.length = m) (hr : By w la b) (hb : n + m ≤ 140737488355328)
    (h : ∀ v' w', w'.ownsRow 0 5 1 v' (n + m) (u8s (l ++ b)) → Mv w0 go w' v' → wpList Tryd.prog ops Q rest (a.put o.dst v') w') : wpList Tryd.prog ops Q (o :: rest) a w := by
  obtain ⟨i0, hi, hz0, hz1, hz2⟩ := info_parts info_u8
  subst hm
  cases la with
  | none =>
    have hb0 : b = [] := by
      rcases b with _ | ⟨y, t⟩
      · rfl
      · obtain ⟨_, _, e, _⟩ := hr 0 y rfl
        exact absurd e (by simp)
    subst hb0
    refine wp_of_run hgd s x _ ho _ _ hs hx (run_append_none w 0 _ _ _ i0 1 und_u8s hi _ _ _ hown cl) ?_
    exact h v w (by simpa using hown) hmv
  | some ad =>
    have hnews : ∀ j u, (u8s b)[j]? = some u → w.cell? (ad.add j) = some u := by
      rcases b with _ | ⟨y, t⟩
      · intro j u hj; simp [u8s] at hj
      · obtain ⟨gg, oo, e, _⟩ := hr 0 y rfl
        injection e with e
        subst e
        exact hr.news
    refine wpList_append_own_at w hgd s x _ ho 0 5 i0 (.int .u8 0) 1 1 und_u8s hi hz0 hz1 hz2 rfl (by decide) v n (u8s l) hs hown ad b.length cl (u8s b) hx (u8s_len b) hnews (u8s_one b) (by unfold maxLen; omega) (by omega) (Nat.zero_le _) ?_
    intro v' w' h1 h2 _ h4
    rw [u8s_app] at h1
    exact h v' w' h1 (hmv.app h2 h4)
theorem own_slice' {w : World} {base e n : Nat} {v : Value} {xs : List Value} (h : w.ownsRow base e 1 v n xs) : ∃ ao c, v = .slice ao n c := by
  rcases h.2 with ⟨rfl, rfl⟩ | ⟨g, cap, cur, rfl, _⟩
  · exact ⟨none, 0, rfl⟩
  · exact ⟨_, _, rfl⟩
theorem u8_get' {l : List Nat} {i x : Nat} (h : l[i]? = some x) : (u8s l)[i]? = some (.int .u8 (x : Int)) := by simp [u8s, h]
/-- Bytes, while the marks are being laid. -/
def hf (l : List Nat) (f : Nat → Value) (k : Nat) : Nat → Value := fun j => if j < l.length then ff l j else if j < k then ff l j else f j
set_option maxHeartbeats 3200000 in
set_option maxRecDepth 100000 in
theorem filled_any (ov : Value) (go : Nat) (la : Option Addr) (cl : Nat) (l : List Nat) (w : World) (hm : l.length ≤ 140737488351232) (hov : Om w 5 ov go) (hl : By w la l) :
    Calls Tryd.prog 29 #[ov, .slice la l.length cl] w fun e w' => ∃ g c, e = .returned (.slice (some ⟨g, 0, none⟩) c c) ∧ l.length + 3 ≤ c ∧ c ≤ maxLen ∧ (g = go ∨ w.heap.size ≤ g) ∧ w'.rowIs g 5 c (ff l) ∧ BP (· = go) w w' := by
  have HR := hid1 hl
  have HO := hid1 hov
  obtain ⟨m, em⟩ : ∃ m, l.length = m := ⟨_, rfl⟩
  rw [em] at hm ⊢
  have EM := hid1 em
  have im0 : (0 : Int) ≤ (m : Int) := by omega
  have im1 : (m : Int) ≤ 140737488351232 := by omega
  obtain ⟨oo, lo, co, rfl⟩ : ∃ oo lo co, ov = .slice oo lo co := by
    rcases hov with h | ⟨co, f, h, _⟩
    · exact ⟨_, _, _, h⟩
    · exact ⟨_, _, _, h⟩
  clear hl hov em
  go_enter Tryd.func29, Tryd.ntmps29
  go_upto_if 14 with fail
  go_cut [0] (fun s0 wx => wx = w ∧ Om w 5 s0 go)
  case first =>
    rcases HO.out with h | ⟨co', f, h, hrow, hc⟩
    · injection h with e1 e2 e3
      subst e1 e2 e3
      go_wp2_with fail
      go_meet
      exact ⟨rfl, .inl rfl⟩
    · injection h with e1 e2 e3
      subst e1 e2 e3
      have HH := hid1 hrow
      have HC := hid1 hc
      clear hrow hc
      by_cases hbig : (m : Int) + 70000 < (co : Int)
      · go_wp2_with fail
        go_meet
        exact ⟨rfl, .inl rfl⟩
      · go_wp2_with fail
        go_meet
        exact ⟨rfl, .inr ⟨_, f, rfl, HH.out, HC.out⟩⟩
  case rest =>
    obtain ⟨ew, hom⟩ := hcut
    obtain rfl : w = wc := ew.symm
    clear ew
    have s3 : m + 3 ≤ 140737488355328 := by omega
    have s0 : 0 + m ≤ 140737488355328 := by omega
    have b3 : ∀ W : World, By (W.alloc (.cells #[.int .u8 0, .int .u8 0, .int .u8 0] 5)) (some ⟨W.heap.size, 0, none⟩) [0, 0, 0] := fun W => by_lit W [0, 0, 0] 5 (0, 0) (by decide)
    go_upto_region 4 with fail
    go_cut [6] (fun s6 wx => ∃ g c f, s6 = .slice (some ⟨g, 0, none⟩) (m + 3) c ∧ m + 3 ≤ c ∧ c ≤ maxLen ∧ wx.rowIs g 5 c f ∧ (∀ j, j < m → f j = ff l j) ∧ (g = go ∨ w.heap.size ≤ g) ∧ BP (· = go) w wx)
    case first =>
      have fin : Hid (∀ (v : Value) (wx : World), wx.ownsRow 0 5 1 v (0 + m + 3) (u8s ([] ++ l ++ [0, 0, 0])) → Mv w go wx v → ∃ g c f, v = .slice (some ⟨g, 0, none⟩) (m + 3) c ∧ m + 3 ≤ c ∧ c ≤ maxLen ∧ wx.rowIs g 5 c f ∧ (∀ j, j < m → f j = ff l j) ∧ (g = go ∨ w.heap.size ≤ g) ∧ BP (· = go) w wx) := hid1 fun v wx ho hmv => by
        rw [Nat.zero_add, List.nil_append] at ho
        obtain ⟨g, c, f, rfl, _, hle, hmax, hrow, hf⟩ := own_row ho (by omega)
        refine ⟨g, c, f, rfl, hle, hmax, hrow, fun j hj => ?_, ?_, hmv.but⟩
        · have h1 := hf j (by omega)
          obtain ⟨x, ex, x1, _⟩ := ff_val (l := l) (j := j)
          have h2 : (u8s (l ++ [0, 0, 0]))[j]? = some (.int .u8 (x : Int)) := u8_get' (by rw [List.getElem?_append_left (by rw [EM.out]; exact hj)]; exact x1 (by rw [EM.out]; exact hj))
          rw [h2] at h1
          injection h1 with h1
          rw [ex, h1]
        · rcases hmv.at_ with h | h | ⟨b, h, hb⟩
          · simp [Value.ownBlock] at h
          · simp [Value.ownBlock] at h; exact .inl h
          · simp [Value.ownBlock] at h; subst h; exact .inr hb
      rcases hom with rfl | ⟨co', f, rfl, hrow, hc⟩
      · go_wp2_with (first
          | (at_builtin; refine app_by rfl (.tmp 16) (.tmp 17) rfl w go (.slice none 0 0) 0 [] (by go_simp) (World.ownsRow_nil _ _ _ _) ⟨BP.refl _ _, .inl rfl⟩ la m cl l (by go_simp) EM.out HR.out s0 ?_; intro v1 w1 hown1 hmv1; obtain ⟨a1, c1, rfl⟩ := own_slice' hown1; have O1 := hid1 hown1; have M1 := hid1 hmv1; clear hown1 hmv1)
          | (at_builtin; refine app_by rfl (.tmp 18) (.tmp 19) rfl w go (.slice a1 (0 + m) c1) (0 + m) ([] ++ l) (by go_simp) (O1.out.alloc _) (M1.out.alloc _) (some ⟨_, 0, none⟩) 3 3 [0, 0, 0] (by go_simp) rfl (b3 _) (by omega) ?_; intro v2 w2 hown2 hmv2; obtain ⟨a2, c2, rfl⟩ := own_slice' hown2; have F2 := fin.out _ _ hown2 hmv2; clear hown2 hmv2))
        go_meet
        rw [Nat.zero_add] at F2
        exact F2
      · have HH := hid1 (own_none hrow hc)
        clear hrow hc
        go_wp2_with (first
          | (at_builtin; refine app_by rfl (.tmp 16) (.tmp 17) rfl w go (.slice (some ⟨go, 0, none⟩) 0 co') 0 [] (by go_simp) HH.out ⟨BP.refl _ _, .inr (.inl rfl)⟩ la m cl l (by go_simp) EM.out HR.out s0 ?_; intro v1 w1 hown1 hmv1; obtain ⟨a1, c1, rfl⟩ := own_slice' hown1; have O1 := hid1 hown1; have M1 := hid1 hmv1; clear hown1 hmv1)
          | (at_builtin; refine app_by rfl (.tmp 18) (.tmp 19) rfl w go (.slice a1 (0 + m) c1) (0 + m) ([] ++ l) (by go_simp) (O1.out.alloc _) (M1.out.alloc _) (some ⟨_, 0, none⟩) 3 3 [0, 0, 0] (by go_simp) rfl (b3 _) (by omega) ?_; intro v2 w2 hown2 hmv2; obtain ⟨a2, c2, rfl⟩ := own_slice' hown2; have F2 := fin.out _ _ hown2 hmv2; clear hown2 hmv2))
        go_meet
        rw [Nat.zero_add] at F2
        exact F2
    case rest =>
      obtain ⟨g, c2, f2, rfl, hle, hmax, hrow2, hf2, hg, hbut⟩ := hcut
      have hstart : wc.rowIs g 5 c2 (hf l f2 m) := hrow2.congr fun j hj => by
        unfold hf
        by_cases h1 : j < l.length
        · rw [if_pos h1]; exact hf2 j (by rw [← EM.out]; exact h1)
        · rw [if_neg h1, if_neg (by rw [← EM.out]; exact h1)]
      have HST := hid1 hstart
      unfold maxLen at hmax
      have ic0 : (0 : Int) ≤ (c2 : Int) := by omega
      have ic1 : (c2 : Int) ≤ 9223372036854775807 := by omega
      clear hom hrow2 hf2 hstart b3 s0 s3
      go_wp2_with fail
      go_loopw [7] (fun i wr => ∃ k : Nat, m ≤ k ∧ k ≤ c2 ∧ i = .int .i64 k ∧ Hid (wr.rowIs g 5 c2 (hf l f2 k)) ∧ BP (· = go) w wr) (fun i _ => c2 - (intOf i).toNat)
      case atStart => exact ⟨m, Nat.le_refl _, by omega, rfl, HST, hbut⟩
      case round =>
        clear hbut HST
        obtain ⟨k, hk1, hk2, rfl, HH, hbut⟩ := hrel
        have ik0 : (0 : Int) ≤ (k : Int) := by omega
        by_cases hlt : k < c2
        · have ik : (k : Int) < (c2 : Int) := by omega
          have fw := HH.out.frozen k
          have cw := HH.out.cell hlt
          have NR : Hid ((wr.setCell ⟨g, k, none⟩ (.int .u8 ((mk8 k : Nat) : Int))).rowIs g 5 c2 (hf l f2 (k + 1))) := hid1 ((HH.out.set k _).congr fun j _ => by
            unfold hf
            by_cases e : j = k
            · subst e
              rw [if_pos rfl, if_neg (by rw [EM.out]; omega), if_pos (by omega)]
              unfold ff
              rw [if_neg (by rw [EM.out]; omega)]
            · rw [if_neg e]
              by_cases h1 : j < l.length
              · rw [if_pos h1, if_pos h1]
              · rw [if_neg h1, if_neg h1]
                by_cases h2 : j < k
                · rw [if_pos h2, if_pos (by omega)]
                · rw [if_neg h2, if_neg (by omega)])
          go_wp2_with fail
          refine (mark_any k wr).mono ?_
          rintro e w1 ⟨rfl, rfl⟩
          go_wp2_with fail
          exact ⟨⟨k + 1, by omega, by omega, by go_num, NR, hbut.set hg _⟩, by simp [intOf]; omega⟩
        · have hkc : k = c2 := by omega
          subst hkc
          go_wp2_with fail
          go_ret
          exact ⟨g, k, rfl, hle, by unfold maxLen; omega, hg, HH.out.congr fun j hj => by
            unfold hf
            by_cases h1 : j < l.length
            · rw [if_pos h1]
            · rw [if_neg h1, if_pos hj], hbut⟩
end Go.Proofs.YtbpglkhgggokcaaDoor
