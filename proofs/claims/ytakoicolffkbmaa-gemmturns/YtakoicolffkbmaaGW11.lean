/- heddlelaw11: lines as rows that may be; their sums; begun. -/
import Derived.Test.YtakoicolffkbmaaGW9
import Derived.Test.YtakoicolffkbmaaGW10
namespace Go.Proofs.Ytakoicolffkbmaa
open Go.RowKit

theorem dck_line (s : ByteArray) (n g g' : Nat) (h1 : n ≤ 16777216) : dck (lnS s n g) (lnM s n g') = 0 := by
  have hc : ∀ N : Nat, N < 2 ^ n → chk (n : Nat) (nw n) N = 0 := fun N hN => by
    unfold chk
    rw [if_neg (by omega), if_neg (by omega), if_neg (by simp), Int.toNat_natCast, if_pos hN]
  unfold dck
  have e1 : (lnS s n g).chk = 0 := hc _ (bn_lt _ _)
  have e2 : ftB (lnM s n g').n (lnM s n g').m (lnM s n g').N (lnS s n g).n = true := by
    simp only [ftB, decide_eq_true_eq]
    exact ⟨hc _ (bn_lt _ _), trivial⟩
  rw [if_neg (by simp [e1, e2])]
  have e3 : bn (pl s) n &&& bn (nz s) n = bn (pl s) n := by
    apply Nat.eq_of_testBit_eq
    intro i
    rw [Nat.testBit_and, bn_bit, bn_bit]
    by_cases h : i < n
    · simp only [h, decide_true, Bool.true_and]
      unfold pl nz
      by_cases h2 : ch s i = 43
      · simp [h2]
      · simp [h2]
    · simp [h]
  rw [if_pos e3]
/-- A row that is a line. -/
def IsL (n : Nat) (s : ByteArray) (x : Bt × Bt) : Prop := ∃ g g', x = (lnS s n g, lnM s n g')
theorem gE_lines {n : Nat} {l m : List (Bt × Bt)} (h1 : n ≤ 16777216) (hl : ∀ x ∈ l, ∃ s, IsL n s x) (hm : ∀ x ∈ m, ∃ s, IsL n s x) (hb : l.length * m.length ≤ 16777216) : gE l m = 0 := by
  have key : ∀ L : List (Bt × Bt), (∀ x ∈ L, ∃ s, IsL n s x) → od n L = 0 := fun L hL => od_all fun x hx => by
    obtain ⟨s, g, g', rfl⟩ := hL x hx
    exact ⟨dck_line s n g g' h1, rfl⟩
  unfold gE
  rw [if_neg (by omega)]
  cases l with
  | cons x l =>
    obtain ⟨s, g, g', rfl⟩ := hl x (by simp)
    have e : fiL ((lnS s n g, lnM s n g') :: l) m = n := rfl
    rw [e, if_pos (key _ hl)]
    exact key _ hm
  | nil =>
    cases m with
    | nil => rfl
    | cons x m =>
      obtain ⟨s, g, g', rfl⟩ := hm x (by simp)
      have e : fiL [] ((lnS s n g, lnM s n g') :: m) = n := rfl
      rw [e, if_pos (key _ hl)]
      exact key _ hm
/-- The sum of two lines. -/
def lsm (n : Nat) (s t : ByteArray) : Int := tq (bn (nz s) n &&& bn (nz t) n) (bn (pl s) n) (bn (pl t) n) (64 * nw n)
theorem sg_lines {n : Nat} {l m : List (Bt × Bt)} {i j : Nat} (hi : i < l.length) (hj : j < m.length) {s t : ByteArray} (h1 : IsL n s l[i]) (h2 : IsL n t m[j]) : sg l m i j = lsm n s t := by
  rw [sg_at hi hj]
  obtain ⟨g, g', e⟩ := h1
  obtain ⟨k, k', e'⟩ := h2
  rw [e, e']
  rfl
/-- Two rows laid one behind the other. -/
abbrev bx2 (x y : Bt × Bt) : Obj := .cells #[.int .i64 x.1.n, .slice x.1.ao x.1.m x.1.cap, .int .i64 x.2.n, .slice x.2.ao x.2.m x.2.cap, .int .i64 y.1.n, .slice y.1.ao y.1.m y.1.cap, .int .i64 y.2.n, .slice y.2.ao y.2.m y.2.cap] 28
theorem lq_two (w : World) (x y : Bt × Bt) (hx : Rw w x.1 ∧ Rw w x.2) (hy : Rw w y.1 ∧ Rw w y.2) : Lq (w.alloc (bx2 x y)) (some ⟨w.heap.size, 0, none⟩) [x, y] := by
  have hB : Below w.heap.size w (w.alloc (bx2 x y)) := bl_alloc (Below.refl _ _) _
  have hr := World.rowIs_alloc w (#[.int .i64 x.1.n, .slice x.1.ao x.1.m x.1.cap, .int .i64 x.2.n, .slice x.2.ao x.2.m x.2.cap, .int .i64 y.1.n, .slice y.1.ao y.1.m y.1.cap, .int .i64 y.2.n, .slice y.2.ao y.2.m y.2.cap] : Array Value) 28 (fun k => ((#[.int .i64 x.1.n, .slice x.1.ao x.1.m x.1.cap, .int .i64 x.2.n, .slice x.2.ao x.2.m x.2.cap, .int .i64 y.1.n, .slice y.1.ao y.1.m y.1.cap, .int .i64 y.2.n, .slice y.2.ao y.2.m y.2.cap] : Array Value)[k]?).getD undef) (fun i hi => by rw [Array.getElem?_eq_getElem hi]; rfl)
  intro i hi
  rcases i with _ | _ | i
  · exact ⟨⟨w.heap.size, 0, rfl, hr.cell (i := 0) (by simp), hr.cell (i := 1) (by simp), hr.cell (i := 2) (by simp), hr.cell (i := 3) (by simp)⟩, hx.1.below hB, hx.2.below hB⟩
  · exact ⟨⟨w.heap.size, 0, rfl, hr.cell (i := 4) (by simp), hr.cell (i := 5) (by simp), hr.cell (i := 6) (by simp), hr.cell (i := 7) (by simp)⟩, hy.1.below hB, hy.2.below hB⟩
  · simp at hi; omega
abbrev tx (l : List UInt8) : ByteArray := ⟨l.toArray⟩
theorem sums_begun : lsm 3 (tx [43, 43, 45]) (tx [43, 43, 43]) = 1 ∧ lsm 3 (tx [43, 43, 45]) (tx [45, 45, 48]) = -2 ∧ lsm 3 (tx [48, 45, 43]) (tx [43, 43, 43]) = 0 ∧ lsm 3 (tx [48, 45, 43]) (tx [45, 45, 48]) = 1 := by decide +kernel
/-- Two numbers laid one behind the other; two lists of two. -/
theorem li_two (w : World) (a b : Int) : Li (w.alloc (.cells #[.int .i64 a, .int .i64 b] 2)) (some ⟨w.heap.size, 0, none⟩) 2 (fun j => if j = 0 then a else b) := by
  have hr := World.rowIs_alloc w (#[.int .i64 a, .int .i64 b] : Array Value) 2 (fun k => ((#[.int .i64 a, .int .i64 b] : Array Value)[k]?).getD undef) (fun i hi => by rw [Array.getElem?_eq_getElem hi]; rfl)
  intro j hj
  rcases j with _ | _ | j
  · exact ⟨_, 0, rfl, hr.cell (i := 0) (by simp)⟩
  · exact ⟨_, 0, rfl, hr.cell (i := 1) (by simp)⟩
  · omega
theorem ll_two (w : World) (u v : Option Addr) (F : Nat → Nat → Int) (h0 : Li w u 2 (F 0)) (h1 : Li w v 2 (F 1)) : Ll (w.alloc (.cells #[.slice u 2 2, .slice v 2 2] 41)) (some ⟨w.heap.size, 0, none⟩) 2 2 F := by
  have hB : Below w.heap.size w (w.alloc (.cells #[.slice u 2 2, .slice v 2 2] 41)) := bl_alloc (Below.refl _ _) _
  have hr := World.rowIs_alloc w (#[.slice u 2 2, .slice v 2 2] : Array Value) 41 (fun k => ((#[.slice u 2 2, .slice v 2 2] : Array Value)[k]?).getD undef) (fun i hi => by rw [Array.getElem?_eq_getElem hi]; rfl)
  intro j hj
  rcases j with _ | _ | j
  · exact ⟨_, 0, u, 2, rfl, hr.cell (i := 0) (by simp), h0.below hB⟩
  · exact ⟨_, 0, v, 2, rfl, hr.cell (i := 1) (by simp), h1.below hB⟩
  · omega
def wan (i j : Nat) : Int := if i = 0 then (if j = 0 then 1 else -2) else (if j = 0 then 0 else 1)
theorem want_new (w : World) : Ll (((w.alloc (.cells #[.int .i64 1, .int .i64 (-2)] 2)).alloc (.cells #[.int .i64 0, .int .i64 1] 2)).alloc (.cells #[.slice (some ⟨w.heap.size, 0, none⟩) 2 2, .slice (some ⟨w.heap.size + 1, 0, none⟩) 2 2] 41)) (some ⟨w.heap.size + 1 + 1, 0, none⟩) 2 2 wan := by
  have a1 := (li_two w 1 (-2)).below (bl_alloc (Below.refl _ _) (.cells #[.int .i64 0, .int .i64 1] 2))
  have a2 := li_two (w.alloc (.cells #[.int .i64 1, .int .i64 (-2)] 2)) 0 1
  rw [show (w.alloc (.cells #[.int .i64 1, .int .i64 (-2)] 2)).heap.size = w.heap.size + 1 by simp] at a2
  have a3 := ll_two _ _ _ wan (a1 : Li _ _ 2 (wan 0)) (a2 : Li _ _ 2 (wan 1))
  rw [show ((w.alloc (.cells #[.int .i64 1, .int .i64 (-2)] 2)).alloc (.cells #[.int .i64 0, .int .i64 1] 2)).heap.size = w.heap.size + 1 + 1 by simp] at a3
  exact a3
end Go.Proofs.Ytakoicolffkbmaa
