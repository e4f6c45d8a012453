/- CHUNKS: bytes appended; addNumber, addHead. -/
import Derived.Test.YtbpglkhgggokcaaDoorCW1
import Derived.Lib.EndianBits
namespace Go.Proofs.YtbpglkhgggokcaaDoor
open Go.RowKit

theorem und_u8s : Tryd.prog.underlying 25 = some (.slice 5) := by kernel_rfl
theorem info_u8 : (Tryd.prog.info? 5).map (fun i => (i.zero, i.size, i.bytes)) = some (some (.int .u8 0), 1, 1) := by kernel_rfl
theorem run_append_none {P : Program} (w : World) (base : Nat) (t ty e : TypeId) (i : TypeInfo) (size : Nat) (ht : P.underlying t = some (.slice e)) (hi : P.info? e = some i)
    (v : Value) (n : Nat) (xs : List Value) (hown : w.ownsRow base e size v n xs) (c : Nat) :
    (Builtin.append_ #[t, t] ty #[v, .slice none 0 c]).run P w = .ok v w := by
  rcases hown.2 with ⟨rfl, rfl⟩ | ⟨g, cap, cur, rfl, _, _, hnc, _⟩
  · simp [Builtin.append_, run_underlying ht, sizeOf, typeInfo, hi, Builtin.lenOf, Builtin.firstCells]
  · simp [Builtin.append_, run_underlying ht, sizeOf, typeInfo, hi, Builtin.lenOf, Builtin.firstCells, hnc, storeCells]
theorem wp_of_run {P : Program} {w w' : World} {v' : Value} {ops : Array Oper} {rest : List Oper} {o : Oper} {a : Act} {Q : Exit → Act → World → Prop} (hgd : o.guard = none) (s x : Operand) (t : TypeId)
    (ho : o.op = .call { callee := .builtin .append, args := #[s, x], argTypes := #[t, t] }) (vs vx : Value) (hs : a.eval s = vs) (hx : a.eval x = vx)
    (hr : (Builtin.append_ #[t, t] o.type #[vs, vx]).run P w = .ok v' w') (h : wpList P ops Q rest (a.put o.dst v') w') : wpList P ops Q (o :: rest) a w := by
  refine wpList_plain hgd fun K hK => ?_
  unfold Oper.wp execOp
  simp only [ho, resolve, invoke, builtin, Sem.run_bind, Sem.run_pure, Result.andThen_ok, List.map_toArray, List.map_cons, List.map_nil, hs, hx, hr]
  exact hK _ _ h
theorem u8s_len (l : List Nat) : (u8s l).length = l.length * 1 := by simp [u8s]
theorem u8s_app (l m : List Nat) : u8s l ++ u8s m = u8s (l ++ m) := by simp [u8s]
/-- Bytes behind a row of one's own, where there is room. -/
theorem wp_fit8 {w : World} {ops : Array Oper} {rest : List Oper} {o : Oper} {a : Act} {Q : Exit → Act → World → Prop} (hgd : o.guard = none) (s x : Operand)
    (ho : o.op = .call { callee := .builtin .append, args := #[s, x], argTypes := #[25, 25] }) (base g n cap : Nat) (l : List Nat) (hs : a.eval s = .slice (some ⟨g, 0, none⟩) n cap)
    (hown : w.ownsRow base 5 1 (.slice (some ⟨g, 0, none⟩) n cap) n (u8s l)) (ao : Option Addr) (m c : Nat) (b : List Nat) (hx : a.eval x = .slice ao m c) (hm : b.length = m) (hb : By w ao b) (hroom : n + m ≤ cap)
    (h : ∀ w', w'.ownsRow base 5 1 (.slice (some ⟨g, 0, none⟩) (n + m) cap) (n + m) (u8s (l ++ b)) → BP (· = g) w w' → wpList Tryd.prog ops Q rest (a.put o.dst (.slice (some ⟨g, 0, none⟩) (n + m) cap)) w') : wpList Tryd.prog ops Q (o :: rest) a w := by
  obtain ⟨i0, hi, hz0, hz1, hz2⟩ := info_parts info_u8
  subst hm
  cases ao with
  | none =>
    have hb0 : b = [] := by
      rcases b with _ | ⟨y, t⟩
      · rfl
      · obtain ⟨_, _, e, _⟩ := hb 0 y rfl
        exact absurd e (by simp)
    subst hb0
    refine wp_of_run hgd s x _ ho _ _ hs hx (run_append_none w base _ _ _ i0 1 und_u8s hi _ _ _ hown c) ?_
    exact h w (by simpa using hown) (BP.refl _ _)
  | some ad =>
    have hnews : ∀ j u, (u8s b)[j]? = some u → w.cell? (ad.add j) = some u := by
      rcases b with _ | ⟨y, t⟩
      · intro j u hj; simp [u8s] at hj
      · obtain ⟨gg, oo, e, _⟩ := hb 0 y rfl
        injection e with e
        subst e
        exact hb.news
    obtain ⟨w', hr, own, gr⟩ := run_append_fits (P := Tryd.prog) w base 25 o.type 5 i0 1 und_u8s hi hz1 g n cap (u8s l) hown ad b.length c (u8s b) (u8s_len b) hnews (u8s_one b) hroom
    rw [u8s_app] at own
    exact wp_of_run hgd s x _ ho _ _ hs hx hr (h w' own ((BP.grown gr).mono fun y _ hy => by injection hy))
theorem cell_four_new (w : World) (a b c d : Value) (t : TypeId) : ∀ (j : Nat) (u : Value), [a, b, c, d][j]? = some u → (w.alloc (.cells #[a, b, c, d] t)).cell? ((⟨w.heap.size, 0, none⟩ : Addr).add j) = some u := by
  intro j u h
  rcases j with _ | _ | _ | _ | j
  · simp at h; subst h; simp [Addr.add, go_sem]
  · simp at h; subst h; simp [Addr.add, go_sem]
  · simp at h; subst h; simp [Addr.add, go_sem]
  · simp at h; subst h; simp [Addr.add, go_sem]
  · simp at h
theorem by_new (w : World) (a b c d : Nat) (t : TypeId) (ha : a < 256) (hb : b < 256) (hc : c < 256) (hd : d < 256) : By (w.alloc (.cells #[.int .u8 a, .int .u8 b, .int .u8 c, .int .u8 d] t)) (some ⟨w.heap.size, 0, none⟩) [a, b, c, d] := by
  intro k x h
  rcases k with _ | _ | _ | _ | k
  · simp at h; subst h; exact ⟨_, _, rfl, by simp [go_sem], ha⟩
  · simp at h; subst h; exact ⟨_, _, rfl, by simp [go_sem], hb⟩
  · simp at h; subst h; exact ⟨_, _, rfl, by simp [go_sem], hc⟩
  · simp at h; subst h; exact ⟨_, _, rfl, by simp [go_sem], hd⟩
  · simp at h
theorem u8w (x y : Nat) (h : x % 256 = y) : IntKind.u8.wrap (x : Int) = (y : Int) := by simp [IntKind.wrap, IntKind.signed, IntKind.bits]; omega
set_option maxHeartbeats 800000 in
set_option maxRecDepth 100000 in
theorem addNumber_any (base g n cap x : Nat) (l : List Nat) (w : World) (hr : n + 4 ≤ cap) (hown : w.ownsRow base 5 1 (.slice (some ⟨g, 0, none⟩) n cap) n (u8s l)) :
    Calls Tryd.prog 24 #[.slice (some ⟨g, 0, none⟩) n cap, .int .u32 x] w fun e w' => e = .returned (.slice (some ⟨g, 0, none⟩) (n + 4) cap) ∧ w'.ownsRow base 5 1 (.slice (some ⟨g, 0, none⟩) (n + 4) cap) (n + 4) (u8s (l ++ four x)) ∧ BP (· = g) w w' := by
  have d1 : (x : Int) / 256 = ((x / 256 : Nat) : Int) := by omega
  have d2 : (x : Int) / 65536 = ((x / 65536 : Nat) : Int) := by omega
  have d3 : (x : Int) / 16777216 = ((x / 16777216 : Nat) : Int) := by omega
  have HF : Hid (four x = [x % 256, x / 256 % 256, x / 65536 % 256, x / 16777216 % 256]) := hid1 rfl
  obtain ⟨q0, e0⟩ : ∃ q, x % 256 = q := ⟨_, rfl⟩
  obtain ⟨q1, e1⟩ : ∃ q, x / 256 % 256 = q := ⟨_, rfl⟩
  obtain ⟨q2, e2⟩ : ∃ q, x / 65536 % 256 = q := ⟨_, rfl⟩
  obtain ⟨q3, e3⟩ : ∃ q, x / 16777216 % 256 = q := ⟨_, rfl⟩
  rw [e0, e1, e2, e3] at HF
  have w0 := u8w x q0 e0
  have w1 := u8w _ q1 e1
  have w2 := u8w _ q2 e2
  have w3 := u8w _ q3 e3
  rw [← d1] at w1
  rw [← d2] at w2
  rw [← d3] at w3
  have b0 : q0 < 256 := by omega
  have b1 : q1 < 256 := by omega
  have b2 : q2 < 256 := by omega
  have b3 : q3 < 256 := by omega
  have OW := hid1 hown
  have hlt : g < w.heap.size := (hown.lt g rfl).2
  clear e0 e1 e2 e3 d1 d2 d3 hown
  go_enter Tryd.func24, Tryd.ntmps24
  go_wp2_with ((at_builtin; refine wp_fit8 rfl _ _ rfl base g n cap l (by go_simp) (OW.out.alloc _) (some ⟨_, 0, none⟩) 4 4 [q0, q1, q2, q3] (by go_simp) rfl (by_new _ q0 q1 q2 q3 _ b0 b1 b2 b3) hr ?_; intro w2 hown2 hbp2))
  go_ret
  refine ⟨rfl, ?_, ?_⟩
  · rw [HF.out]; exact hown2
  · exact ((BP.refl _ _).alloc _).trans hbp2 fun _ _ h => h
theorem bys_one (w : World) (ao : Option Addr) (l : List Nat) (c : Nat) (t : TypeId) (h : By w ao l) : Bys (w.alloc (.cells #[.slice ao l.length c] t)) (some ⟨w.heap.size, 0, none⟩) [l] := by
  intro j m hj
  rcases j with _ | j
  · simp at hj
    subst hj
    exact ⟨_, _, ao, c, rfl, by simp [go_sem], h.keep (bl_alloc (Below.refl _ _) _)⟩
  · simp at hj
/-- Sum of one list. -/
theorem sum_one (go c : Nat) (l : List Nat) (w : World) (LD : Laid w) (hl : l.length ≤ 9223372036854775807) (h : Bys w (some ⟨go, 0, none⟩) [l]) :
    Calls Tryd.prog 11 #[.slice (some ⟨go, 0, none⟩) 1 c] w fun e w' => e = .returned (.int .u32 (crc l : Nat)) ∧ w' = w := by
  have h1 := sum_any (some ⟨go, 0, none⟩) c [l] w LD (by simp) (fun m hm => by simp at hm; subst hm; exact hl) h
  simpa [cat] using h1
set_option maxHeartbeats 1600000 in
set_option maxRecDepth 100000 in
theorem addHead_any (base g n cap k c : Nat) (l : List Nat) (w : World) (LD : Laid w) (hg : g ≠ 0) (hc : c < 4294967296) (hr : n + 12 ≤ cap) (hcap : cap ≤ 16777216) (hlb : ∀ x ∈ l, x < 256) (hown : w.ownsRow base 5 1 (.slice (some ⟨g, 0, none⟩) n cap) n (u8s l)) :
    Calls Tryd.prog 23 #[.slice (some ⟨g, 0, none⟩) n cap, .int .u32 k, .int .i64 c] w fun e w' => e = .returned (.slice (some ⟨g, 0, none⟩) (n + 12) cap) ∧ w'.ownsRow base 5 1 (.slice (some ⟨g, 0, none⟩) (n + 12) cap) (n + 12) (u8s (l ++ hdB k c)) ∧ BP (· = g) w w' := by
  have OW := hid1 hown
  have LL := hid1 LD
  have HB := hid1 hlb
  have wc : IntKind.u32.wrap (c : Int) = (c : Int) := by simp [IntKind.wrap, IntKind.signed, IntKind.bits]; omega
  have LN : Hid (l.length = n) := hid1 (by have := hown.1; simpa [u8s] using this)
  clear hown LD hlb
  go_enter Tryd.func23, Tryd.ntmps23
  go_wp2_with fail
  refine (addNumber_any base g n cap k l w (by omega) OW.out).mono ?_
  rintro e w1 ⟨rfl, own1, bp1⟩
  have O1 := hid1 own1
  clear own1
  go_wp2_with fail
  refine (addNumber_any base g (n + 4) cap c (l ++ four k) w1 (by omega) O1.out).mono ?_
  rintro e w2 ⟨rfl, own2, bp2⟩
  have O2 := hid1 own2
  clear own2
  have BB : BP (· = g) w w2 := bp1.trans bp2 fun _ _ h => h
  clear bp1 bp2 O1
  have i0 : (0 : Int) ≤ (n : Int) := by omega
  have i1 : (n : Int) ≤ (n : Int) + 4 + 4 := by omega
  have i2 : (n : Int) ≤ ((n + 4 + 4 : Nat) : Int) := by omega
  go_wp2_with fail
  refine gen_calls (fun W => BP (· = g) w W ∧ Laid W ∧ W.ownsRow base 5 1 (.slice (some ⟨g, 0, none⟩) (n + 4 + 4) cap) (n + 4 + 4) (u8s (l ++ four k ++ four c)) ∧ Bys W (some ⟨w2.heap.size, 0, none⟩) [four k ++ four c]) ⟨BB.alloc _, LL.out.bp (BB.alloc _) (fun h => hg h.symm), O2.out.alloc _, ?_⟩ ?_
  · have hby := (own_by O2.out (app_lt (app_lt HB.out (four_lt _)) (four_lt _))).drop n
    rw [List.append_assoc, List.drop_left' LN.out, Nat.zero_add] at hby
    have h8 : n + 4 + 4 - n = (four k ++ four c).length := by simp [four_len]; omega
    rw [h8]
    exact bys_one _ _ _ _ _ hby
  · clear O2 BB
    rintro W ⟨BB, LW, OW2, hys⟩
    refine (sum_one w2.heap.size 1 _ W LW (by simp [four_len]) hys).mono ?_
    rintro e w3 ⟨rfl, rfl⟩
    have O3 := hid1 OW2
    clear OW2 hys
    go_wp2_with fail
    refine (addNumber_any base g (n + 4 + 4) cap (crc (four k ++ four c)) (l ++ four k ++ four c) w3 (by omega) O3.out).mono ?_
    rintro e w4 ⟨rfl, own4, bp4⟩
    have O4 := hid1 own4
    clear own4
    go_wp2
    go_ret
    refine ⟨rfl, ?_, BB.trans bp4 fun _ _ h => h⟩
    have e : l ++ hdB k c = l ++ four k ++ four c ++ four (crc (four k ++ four c)) := by simp only [hdB, List.append_assoc]
    rw [e]
    exact O4.out
end Go.Proofs.YtbpglkhgggokcaaDoor
