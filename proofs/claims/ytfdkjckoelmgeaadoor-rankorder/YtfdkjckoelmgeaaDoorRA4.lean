/- PACKAGE rank: tables in memory of their own; New, clone. -/
import Derived.Test.YtfdkjckoelmgeaaDoorRA3
namespace Go.Proofs.YtfdkjckoelmgeaaDoor
open Go.RowKit

theorem own_row {w : World} {base e : Nat} {v : Value} {n : Nat} {xs : List Value} (h : w.ownsRow base e 1 v n xs) (hn : 0 < n) :
    ∃ g cap f, v = .slice (some ⟨g, 0, none⟩) n cap ∧ base ≤ g ∧ n ≤ cap ∧ cap ≤ maxLen ∧ w.rowIs g e cap f ∧ ∀ k, k < n → xs[k]? = some (f k) := by
  rcases h.2 with ⟨_, h0⟩ | ⟨g, cap, cur, hv, hb, hg, h4, h5, h6, h7⟩
  · omega
  · refine ⟨g, cap, fun k => cur[k]?.getD undef, hv, hb, h4, h5, ⟨cur, hg, by omega, fun i hi => ?_⟩, fun k hk => ?_⟩
    · simp [Array.getElem?_eq_getElem (show i < cur.size by omega)]
    · rw [← h7, Nat.mul_one, List.getElem?_take_of_lt hk]
      simp [Array.getElem?_eq_getElem (show k < cur.size by omega)]
theorem row_ne {w : World} {b b' t t' n n' : Nat} {f f' : Nat → Value} (h : w.rowIs b t n f) (h' : w.rowIs b' t' n' f') (ht : t ≠ t') : b ≠ b' := by
  rintro rfl
  obtain ⟨c, e, _⟩ := h
  obtain ⟨c', e', _⟩ := h'
  rw [e] at e'
  exact ht (by injection e' with e'; injection e')
/-- Numbers as values. -/
abbrev i64s (l : List Int) : List Value := l.map fun x => .int .i64 x
/-- A row of numbers at the front of a block of its own. -/
def Ro (w : World) (g cap : Nat) (l : List Int) : Prop := ∃ f, w.rowIs g 2 cap f ∧ l.length ≤ cap ∧ cap ≤ 9223372036854775807 ∧ ∀ (j : Nat) (x : Int), l[j]? = some x → f j = .int .i64 x
theorem Ro.below {w w' : World} {g cap : Nat} {l : List Int} (h : Ro w g cap l) (hb : Below w.heap.size w w') : Ro w' g cap l := by
  obtain ⟨f, r, h1, h2⟩ := h; exact ⟨f, keepr hb r, h1, h2⟩
theorem Ro.lt {w : World} {g cap : Nat} {l : List Int} (h : Ro w g cap l) : g < w.heap.size := by
  obtain ⟨f, r, _⟩ := h; exact r.lt
theorem Ro.nm {w : World} {g cap : Nat} {l : List Int} (h : Ro w g cap l) : Nm w (some ⟨g, 0, none⟩) l := fun j x hj => by
  obtain ⟨f, r, h1, _, h2⟩ := h
  have hjl : j < l.length := (List.getElem?_eq_some_iff.1 hj).1
  exact ⟨g, 0, rfl, by rw [Nat.zero_add, r.cell (show j < cap by omega), h2 j x hj]⟩
theorem Ro.other {w : World} {g cap : Nat} {l : List Int} (h : Ro w g cap l) {a : Addr} (ha : g ≠ a.block) (v : Value) : Ro (w.setCell a v) g cap l := by
  obtain ⟨f, r, h1, h2⟩ := h; exact ⟨f, r.setOther ha v, h1, h2⟩
theorem Ro.set {w : World} {g cap : Nat} {l : List Int} (h : Ro w g cap l) (j : Nat) (x : Int) : Ro (w.setCell ⟨g, j, none⟩ (.int .i64 x)) g cap (l.set j x) := by
  obtain ⟨f, r, h1, h3, h2⟩ := h
  refine ⟨_, r.set j _, by simpa using h1, h3, fun i y hi => ?_⟩
  rw [List.getElem?_set] at hi
  by_cases e : i = j
  · subst e
    simp only [if_true]
    simp only [if_true] at hi
    split at hi
    · simp at hi; rw [hi]
    · cases hi
  · rw [if_neg e]
    rw [if_neg (fun h => e h.symm)] at hi
    exact h2 i y hi
theorem Ro.ne {w : World} {g cap b n : Nat} {l : List Int} {f : Nat → Value} (h : Ro w g cap l) (h' : w.rowIs b 22 n f) : g ≠ b := by
  obtain ⟨f', r, _⟩ := h
  exact row_ne r h' (by decide)
theorem Ro.made (w : World) (n : Nat) (hn : n ≤ 9223372036854775807) : Ro (w.alloc (.cells (madeCells #[.int .i64 0] n) 2)) w.heap.size n (List.replicate n 0) :=
  ⟨_, World.rowIs_made w (.int .i64 0) n 2, by simp, hn, fun j x hj => by
    rw [List.getElem?_replicate] at hj
    split at hj
    · injection hj with hj; rw [← hj]
    · cases hj⟩
/-- The first rows of a table of n: the list in block G, row i in block b i, with room for K i. -/
structure Tz (w : World) (M G : Nat) (b K : Nat → Nat) (T : List (List Int)) (n : Nat) : Prop where
  out : w.rowIs G 22 n (fun i => if i < T.length then .slice (some ⟨b i, 0, none⟩) (T.getD i []).length (K i) else .slice none 0 0)
  row : ∀ i, i < T.length → Ro w (b i) (K i) (T.getD i [])
  low : M ≤ G ∧ ∀ i, i < T.length → M ≤ b i
  apart : ∀ i j, i < T.length → j < T.length → i ≠ j → b i ≠ b j
  len : T.length ≤ n
theorem Tz.below {w w' : World} {M G n : Nat} {b K : Nat → Nat} {T : List (List Int)} (h : Tz w M G b K T n) (hb : Below w.heap.size w w') : Tz w' M G b K T n :=
  ⟨keepr hb h.out, fun i hi => (h.row i hi).below hb, h.low, h.apart, h.len⟩
theorem Tz.nil {w : World} (n : Nat) : Tz (w.alloc (.cells (madeCells #[.slice none 0 0] n) 22)) w.heap.size w.heap.size (fun _ => 0) (fun _ => 0) [] n :=
  ⟨(World.rowIs_made w (.slice none 0 0) n 22).congr fun i _ => by simp, fun i hi => by simp at hi, ⟨Nat.le_refl _, fun i hi => by simp at hi⟩, fun i j hi => by simp at hi, by simp⟩
theorem getD_push {T : List (List Int)} {r : List Int} (i : Nat) : (T ++ [r]).getD i [] = if i = T.length then r else T.getD i [] := by
  simp only [List.getD_eq_getElem?_getD]
  by_cases e : i = T.length
  · subst e; simp
  · rw [if_neg e]
    by_cases h : i < T.length
    · rw [List.getElem?_append_left h]
    · rw [List.getElem?_eq_none (by simp; omega), List.getElem?_eq_none (by omega)]
/-- A row more. -/
theorem Tz.push {w X : World} {M G n B c : Nat} {b K : Nat → Nat} {T : List (List Int)} {r : List Int} (h : Tz w M G b K T n) (hb : Below w.heap.size w X) (hB : w.heap.size ≤ B) (hr : Ro X B c r) (hk : T.length < n) :
    Tz (X.setCell ⟨G, T.length, none⟩ (.slice (some ⟨B, 0, none⟩) r.length c)) M G (fun i => if i = T.length then B else b i) (fun i => if i = T.length then c else K i) (T ++ [r]) n := by
  have hG := h.out.lt
  have hout := keepr hb h.out
  have hlen : (T ++ [r]).length = T.length + 1 := by simp
  refine ⟨?_, fun i hi => ?_, ⟨h.low.1, fun i hi => ?_⟩, fun i j hi hj hne => ?_, by omega⟩
  · refine (hout.set T.length _).congr fun i _ => ?_
    rw [hlen, getD_push]
    by_cases e : i = T.length
    · subst e; simp
    · simp only [if_neg e]
      by_cases e2 : i < T.length
      · rw [if_pos e2, if_pos (by omega)]
      · rw [if_neg e2, if_neg (by omega)]
  · rw [getD_push]
    by_cases e : i = T.length
    · subst e
      simp only [if_true]
      exact hr.other (show B ≠ G by omega) _
    · simp only [if_neg e]
      have h2 := (h.row i (by omega))
      exact (h2.below hb).other (h2.ne h.out) _
  · have := h.low.1
    by_cases e : i = T.length
    · subst e; simp only [if_true]; omega
    · simp only [if_neg e]; exact h.low.2 i (by omega)
  · by_cases e : i = T.length
    · subst e
      simp only [if_true, if_neg (show ¬ j = T.length by omega)]
      have := (h.row j (by omega)).lt
      omega
    · simp only [if_neg e]
      by_cases e2 : j = T.length
      · subst e2
        simp only [if_true]
        have := (h.row i (by omega)).lt
        omega
      · simp only [if_neg e2]
        exact h.apart i j (by omega) (by omega) hne
theorem Tz.other {w : World} {M G n : Nat} {b K : Nat → Nat} {T : List (List Int)} (h : Tz w M G b K T n) {a : Addr} (ha : a.block < M) (v : Value) : Tz (w.setCell a v) M G b K T n :=
  ⟨h.out.setOther (by have := h.low.1; omega) v, fun i hi => (h.row i hi).other (by have := h.low.2 i hi; omega) v, h.low, h.apart, h.len⟩
theorem Tz.mono {w : World} {M M' G n : Nat} {b K : Nat → Nat} {T : List (List Int)} (h : Tz w M G b K T n) (hm : M' ≤ M) : Tz w M' G b K T n :=
  ⟨h.out, h.row, ⟨Nat.le_trans hm h.low.1, fun i hi => Nat.le_trans hm (h.low.2 i hi)⟩, h.apart, h.len⟩
/-- A table, whole. -/
def Tb (w : World) (M G : Nat) (b K : Nat → Nat) (T : List (List Int)) : Prop := Tz w M G b K T T.length
theorem Tb.below {w w' : World} {M G : Nat} {b K : Nat → Nat} {T : List (List Int)} (h : Tb w M G b K T) (hb : Below w.heap.size w w') : Tb w' M G b K T := Tz.below h hb
theorem Tb.tn {w : World} {M G : Nat} {b K : Nat → Nat} {T : List (List Int)} (h : Tb w M G b K T) : Tn w (some ⟨G, 0, none⟩) T := fun i r hi => by
  have hil : i < T.length := (List.getElem?_eq_some_iff.1 hi).1
  have e : T.getD i [] = r := by rw [List.getD_eq_getElem?_getD, hi]; rfl
  have c := h.out.cell hil
  rw [if_pos hil, e] at c
  have hr := h.row i hil
  rw [e] at hr
  exact ⟨G, 0, _, _, rfl, by rw [Nat.zero_add]; exact c, hr.nm⟩
/-- A number of the table changed. -/
def st2 (T : List (List Int)) (i j : Nat) (x : Int) : List (List Int) := T.set i ((T.getD i []).set j x)
theorem st2_len (T : List (List Int)) (i j : Nat) (x : Int) : (st2 T i j x).length = T.length := by simp [st2]
theorem st2_getD {T : List (List Int)} {i j : Nat} {x : Int} (k : Nat) (hi : i < T.length) : (st2 T i j x).getD k [] = if k = i then (T.getD i []).set j x else T.getD k [] := by
  unfold st2
  simp only [List.getD_eq_getElem?_getD, List.getElem?_set]
  by_cases e : k = i
  · subst e; simp [hi]
  · rw [if_neg e, if_neg (fun h => e h.symm)]
theorem Tb.set {w : World} {M G : Nat} {b K : Nat → Nat} {T : List (List Int)} (h : Tb w M G b K T) {i : Nat} (hi : i < T.length) (j : Nat) (x : Int) : Tb (w.setCell ⟨b i, j, none⟩ (.int .i64 x)) M G b K (st2 T i j x) := by
  unfold Tb
  rw [st2_len]
  have hri := h.row i hi
  refine ⟨?_, fun k hk => ?_, ⟨h.low.1, fun k hk => h.low.2 k (by rwa [st2_len] at hk)⟩, fun k m hk hm hne => h.apart k m (by rwa [st2_len] at hk) (by rwa [st2_len] at hm) hne, by rw [st2_len]; exact Nat.le_refl _⟩
  · refine (h.out.setOther (show G ≠ b i from fun e => hri.ne h.out e.symm) _).congr fun k hk => ?_
    rw [st2_len, st2_getD k hi]
    by_cases e : k = i
    · subst e; simp
    · simp [e]
  · rw [st2_len] at hk
    rw [st2_getD k hi]
    by_cases e : k = i
    · subst e; simp only [if_true]; exact hri.set j x
    · simp only [if_neg e]; exact (h.row k hk).other (h.apart k i hk hi e) _
theorem rep_push (k : Nat) (r : List Int) : List.replicate k r ++ [r] = List.replicate (k + 1) r := by rw [List.replicate_succ']
set_option maxHeartbeats 800000 in
set_option maxRecDepth 100000 in
theorem new_ok (n : Nat) (h1 : 1 ≤ n) (h2 : n ≤ 256) (w : World) :
    Calls Tryd.prog 12 #[.int .i64 n] w fun e w' => ∃ G b K, e = .returned (.tuple #[tbv (some ⟨G, 0, none⟩) n n, .int .i64 0]) ∧ Tb w' w.heap.size G b K (List.replicate n (List.replicate n 0)) ∧ Below w.heap.size w w' := by
  obtain ⟨i0, hi, hz0, hz1, hz2⟩ := info_parts info_i64
  obtain ⟨j0, hj, hy0, hy1, hy2⟩ := info_parts info_i64s
  have n1 : (1 : Int) ≤ (n : Int) := by omega
  have n2 : (n : Int) ≤ 256 := by omega
  go_enter Tryd.func12, Tryd.ntmps12
  go_wp2_with ((refine wpList_make_row _ rfl _ _ 34 rfl 22 j0 (.slice none 0 0) und_i64ss hj hy0 hy1 rfl .i64 .i64 n (by go_simp) (by go_simp) (by rw [hy2]; omega) (by omega) ?_; refine gen_list (fun X => Below w.heap.size w X ∧ Tz X (w.heap.size + 1) (w.heap.size + 1) (fun _ => 0) (fun _ => 0) [] n ∧ X.rowIs w.heap.size 36 1 (fun _ => .slice none 0 0)) ⟨bl_alloc (bl_alloc (Below.refl _ _) _) _, by have := Tz.nil (w := w.alloc (.cells #[.slice none 0 0] 36)) n; simpa using this, (World.rowIs_alloc w #[.slice none 0 0] 36 (fun _ => .slice none 0 0) (fun i hi => by simp at hi; subst hi; rfl)).alloc _⟩ ?_; rintro W1 ⟨B1, hz, cq⟩))
  go_loopw [5, 17] (fun _ i wr => ∃ (k : Nat) (b K : Nat → Nat), k ≤ n ∧ i = .int .i64 (k : Nat) ∧ Tz wr (w.heap.size + 1) (w.heap.size + 1) b K (List.replicate k (List.replicate n 0)) n ∧ Below w.heap.size w wr ∧ wr.rowIs w.heap.size 36 1 (fun _ => .slice none 0 0)) (fun _ i _ => n - (intOf i).toNat)
  case atStart => exact ⟨0, _, _, Nat.zero_le _, rfl, hz, B1, cq⟩
  case round =>
    clear hz B1 cq
    obtain ⟨k, b, K, hk, rfl, hz, B1, cq⟩ := hrel
    by_cases hlt : k < n
    · have ik : (k : Int) < (n : Int) := by omega
      have ik0 : (0 : Int) ≤ (k : Int) := by omega
      have HZ := hid1 hz
      have c0 := hz.out.cell hlt
      have f0 := hz.out.frozen k
      have g0 := hz.out.lt
      clear hz
      go_wp2_with ((refine wpList_make_row _ rfl _ _ 22 rfl 2 i0 (.int .i64 0) und_i64s hi hz0 hz1 rfl .i64 .i64 n (by go_simp) (by go_simp) (by rw [hz2]; omega) (by omega) ?_))
      have h1 := HZ.out.push (X := wr.alloc (.cells (madeCells #[.int .i64 0] n) 2)) (bl_alloc (Below.refl _ _) _) (Nat.le_refl _) (Ro.made wr n (by omega)) (by simpa using hlt)
      rw [rep_push, List.length_replicate, List.length_replicate, World.setCell_alloc_past _ _ _ _ (by omega)] at h1
      refine ⟨⟨k + 1, _, _, by omega, by go_num, h1, bl_alloc (bl_set B1 (by omega) _) _, ?_⟩, by simp [intOf]; omega⟩
      exact (cq.setOther (show w.heap.size ≠ w.heap.size + 1 by omega) _).alloc _
    · have hkN : k = n := by omega
      subst hkN
      have HZ := hid1 hz
      have g0 := hz.out.lt
      have q0 := cq.cell (i := 0) (by omega)
      have q1 := cq.frozen 0
      clear hz
      go_wp2_with fail
      refine bodyPost_ret (v := .tuple #[tbv (some ⟨w.heap.size + 1, 0, none⟩) k k, .int .i64 0]) (by simp [results, Tryd.results12, go_sem, q0]) rfl ⟨_, b, K, rfl, ?_, bl_set B1 (Nat.le_refl _) _⟩
      have h2 := (HZ.out.other (a := ⟨w.heap.size, 0, none⟩) (Nat.lt_succ_self _) (.slice (some ⟨w.heap.size + 1, 0, none⟩) k k)).mono (Nat.le_succ w.heap.size)
      unfold Tb
      rw [List.length_replicate]
      exact h2
set_option maxRecDepth 100000 in
theorem new_bad (n : Int) (h : ¬ (1 ≤ n ∧ n ≤ 256)) (w : World) :
    Calls Tryd.prog 12 #[.int .i64 n] w fun e w' => e = .returned (.tuple #[tbv none 0 0, .int .i64 1]) ∧ Below w.heap.size w w' := by
  by_cases h1 : n < 1
  · go_enter Tryd.func12, Tryd.ntmps12
    go_wp2_with fail
    exact bodyPost_ret (v := .tuple #[tbv none 0 0, .int .i64 1]) (by simp [results, Tryd.results12, go_sem]) rfl ⟨rfl, bl_alloc (Below.refl _ _) _⟩
  · have h2 : 256 < n := by omega
    clear h
    go_enter Tryd.func12, Tryd.ntmps12
    go_wp2_with fail
    exact bodyPost_ret (v := .tuple #[tbv none 0 0, .int .i64 1]) (by simp [results, Tryd.results12, go_sem]) rfl ⟨rfl, bl_alloc (Below.refl _ _) _⟩
theorem blkn (w : World) (o : Obj) : (w.alloc o).heap[w.heap.size]? = some o := by unfold World.alloc; simp
theorem i64s_get {l : List Int} {j : Nat} {u : Value} (h : (i64s l)[j]? = some u) : ∃ x, l[j]? = some x ∧ u = .int .i64 x := by
  simp only [i64s, List.getElem?_map, Option.map_eq_some_iff] at h
  obtain ⟨x, h1, h2⟩ := h
  exact ⟨x, h1, h2.symm⟩
theorem own_ro {w : World} {base : Nat} {v : Value} {l : List Int} (h : w.ownsRow base 2 1 v l.length (i64s l)) (hn : 0 < l.length) : ∃ G K, v = .slice (some ⟨G, 0, none⟩) l.length K ∧ base ≤ G ∧ Ro w G K l := by
  obtain ⟨g, cap, f, hv, hb, h1, h2, h3, h4⟩ := own_row h hn
  refine ⟨g, cap, hv, hb, f, h3, h1, by unfold maxLen at h2; omega, fun j x hj => ?_⟩
  have hjl : j < l.length := (List.getElem?_eq_some_iff.1 hj).1
  have := h4 j hjl
  simp only [i64s, List.getElem?_map, hj] at this
  injection this with this
  exact this.symm
set_option maxHeartbeats 1600000 in
set_option maxRecDepth 100000 in
theorem clone64_any (g o m cap : Nat) (l : List Int) (w : World) (hl : l.length = m) (h0 : 0 < m) (hm : m * 8 ≤ 140737488355328) (nm : Nm w (some ⟨g, o, none⟩) l) :
    Calls Tryd.prog 50 #[.slice (some ⟨g, o, none⟩) m cap] w fun e w' => ∃ G K, e = .returned (.slice (some ⟨G, 0, none⟩) m K) ∧ w.heap.size ≤ G ∧ Ro w' G K l ∧ Below w.heap.size w w' := by
  obtain ⟨i0, hi, hz0, hz1, hz2⟩ := info_parts info_i64
  have hnews : ∀ j u, (i64s l)[j]? = some u → (w.alloc (.cells #[] 2)).cell? ((⟨g, o, none⟩ : Addr).add j) = some u := by
    intro j u hu
    obtain ⟨x, hx, rfl⟩ := i64s_get hu
    obtain ⟨g', o', e, c⟩ := (nm.below (bl_alloc (Below.refl _ _) (.cells #[] 2))) j x hx
    cases e
    by_cases e : j = 0
    · subst e; simpa [Addr.add] using c
    · simpa [Addr.add, e] using c
  have HN := hid1 hnews
  have HL := hid1 hl
  clear nm hnews hl
  have hnil : ∀ w, (binOp .eql 22 (.slice (some ⟨g, o, none⟩) m cap) (.slice none 0 0)).run Tryd.prog w = .ok (.bool false) w := fun w => Go.Lib.run_eql_slice_nil w 22 2 (some ⟨g, o, none⟩) m cap 0 0 und_i64s
  go_enter Tryd.func50, Tryd.ntmps50
  have hempty : (w.alloc (.cells #[] 2)).ownsRow w.heap.size 2 1 (.slice (some ⟨w.heap.size, 0, none⟩) 0 0) 0 [] :=
    ⟨rfl, .inr ⟨w.heap.size, 0, #[], rfl, Nat.le_refl _, blkn _ _, Nat.le_refl _, by unfold maxLen; omega, rfl, rfl⟩⟩
  have HE := hid1 hempty
  clear hempty
  go_wp2_with (at_builtin; refine wpList_append_own (w.alloc (.cells #[] 2)) rfl _ _ _ rfl w.heap.size 2 i0 (.int .i64 0) 1 8 und_i64s hi hz0 hz1 hz2 rfl (by decide) (.slice (some ⟨w.heap.size, 0, none⟩) 0 0) 0 [] (by go_simp) HE.out ⟨g, o, none⟩ m cap (i64s l) (by go_simp) (by simp [HL.out]) HN.out (fun u hu => by obtain ⟨k, _, rfl⟩ := List.mem_map.1 hu; rfl) (by unfold maxLen; omega) (by omega) (by simp) ?_; intro v' w' k1 k2 k3)
  rw [Nat.zero_add, List.nil_append] at k1
  go_ret
  have hL := HL.out
  subst hL
  obtain ⟨G, K, rfl, hG, ro⟩ := own_ro k1 h0
  exact ⟨G, K, rfl, hG, ro, (bl_alloc (Below.refl _ _) _).grown k2 (by simp) (fun j e => by cases e; exact Nat.le_refl _)⟩
end Go.Proofs.YtfdkjckoelmgeaaDoor
