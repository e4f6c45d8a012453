/- Plain, Block and Strip of lines. -/
import Derived.Test.YtakoicolffkbmaaGT4
namespace Go.Proofs.Ytakoicolffkbmaa
open Go.RowKit

/-- Rows made of texts. -/
def Pr (w : World) (bo : Option Addr) (N cb : Nat) (L : List ByteArray) (n : Nat) : Prop := ∃ l : List (Bt × Bt), l.length = N ∧ L.length = N ∧ N ≤ cb ∧ Lq w bo l ∧ ∀ i (h : i < l.length) (h' : i < L.length), IsL n L[i] l[i]
theorem Pr.below {w w' : World} {bo : Option Addr} {N cb : Nat} {L : List ByteArray} {n : Nat} (h : Pr w bo N cb L n) (hb : Below w.heap.size w w') : Pr w' bo N cb L n := by
  obtain ⟨l, h1, h2, h3, h4, h5⟩ := h; exact ⟨l, h1, h2, h3, h4.below hb, h5⟩
/-- The sums of texts. -/
def lf (n : Nat) (L M : List ByteArray) (i j : Nat) : Int := lsm n (L.getD i ByteArray.empty) (M.getD j ByteArray.empty)
theorem lf_at {n : Nat} {L M : List ByteArray} {i j : Nat} (hi : i < L.length) (hj : j < M.length) : lf n L M i j = lsm n L[i] M[j] := by
  unfold lf; simp [List.getD, hi, hj]
theorem pr_gE {w w' : World} {a b : Option Addr} {N K ca cb n : Nat} {L M : List ByteArray} {l m : List (Bt × Bt)} (hn : n ≤ 16777216) (hN : N ≤ 1000) (hK : K ≤ 1000) (h1 : l.length = N ∧ L.length = N ∧ N ≤ ca ∧ Lq w a l ∧ ∀ i (h : i < l.length) (h' : i < L.length), IsL n L[i] l[i]) (h2 : m.length = K ∧ M.length = K ∧ K ≤ cb ∧ Lq w' b m ∧ ∀ i (h : i < m.length) (h' : i < M.length), IsL n M[i] m[i]) :
    gE l m = 0 ∧ ∀ i j, i < N → j < K → sg l m i j = lf n L M i j := by
  obtain ⟨a1, a2, _, _, a5⟩ := h1
  obtain ⟨b1, b2, _, _, b5⟩ := h2
  refine ⟨gE_lines hn (fun x hx => ?_) (fun x hx => ?_) ?_, fun i j hi hj => ?_⟩
  · obtain ⟨i, hi, rfl⟩ := List.getElem_of_mem hx
    exact ⟨_, a5 i hi (by omega)⟩
  · obtain ⟨i, hi, rfl⟩ := List.getElem_of_mem hx
    exact ⟨_, b5 i hi (by omega)⟩
  · rw [a1, b1]
    exact Nat.le_trans (Nat.mul_le_mul hN hK) (by omega)
  · rw [lf_at (by omega) (by omega)]
    exact sg_lines (by omega) (by omega) (a5 i (by omega) (by omega)) (b5 j (by omega) (by omega))
theorem plain_lines {a b : Option Addr} {N K ca cb n : Nat} {L M : List ByteArray} (w : World) (hn : n ≤ 16777216) (hN : N ≤ 1000) (hK : K ≤ 1000) (h1 : Pr w a N ca L n) (h2 : Pr w b K cb M n) :
    Calls Try.prog 9 #[.slice a N ca, .slice b K cb] w fun e w' => ∃ G, e = .returned (.tuple #[.slice (some ⟨G, 0, none⟩) N N, .int .i64 0]) ∧ Ll w' (some ⟨G, 0, none⟩) N K (lf n L M) ∧ Below w.heap.size w w' := by
  obtain ⟨l, h1⟩ := h1
  obtain ⟨m, h2⟩ := h2
  obtain ⟨hE, hS⟩ := pr_gE hn hN hK h1 h2
  have h := plain_ok l m a b ca cb w h1.2.2.2.1 h2.2.2.2.1 (by omega) (by omega) hE
  rw [h1.1, h2.1] at h
  refine h.mono ?_
  rintro e w' ⟨G, bb, rfl, hgr, hb⟩
  exact ⟨G, rfl, (hgr.congr hS).list, hb⟩
theorem block_lines {a b : Option Addr} {N K ca cb n p q : Nat} {L M : List ByteArray} (w : World) (hn : n ≤ 16777216) (hN : N ≤ 1000) (hK : K ≤ 1000) (hp : 1 ≤ p ∧ p ≤ 4096) (hq : 1 ≤ q ∧ q ≤ 4096) (h1 : Pr w a N ca L n) (h2 : Pr w b K cb M n) :
    Calls Try.prog 10 #[.slice a N ca, .slice b K cb, .int .i64 p, .int .i64 q] w fun e w' => ∃ G, e = .returned (.tuple #[.slice (some ⟨G, 0, none⟩) N N, .int .i64 0]) ∧ Ll w' (some ⟨G, 0, none⟩) N K (lf n L M) ∧ Below w.heap.size w w' := by
  obtain ⟨l, h1⟩ := h1
  obtain ⟨m, h2⟩ := h2
  obtain ⟨hE, hS⟩ := pr_gE hn hN hK h1 h2
  have h := block_ok l m a b ca cb p q w h1.2.2.2.1 h2.2.2.2.1 (by omega) (by omega) (by omega) hE hp.1 hp.2 hq.1 hq.2
  rw [h1.1, h2.1] at h
  refine h.mono ?_
  rintro e w' ⟨G, bb, rfl, hgr, hb⟩
  exact ⟨G, rfl, (hgr.congr hS).list, hb⟩
theorem strip_lines {a b : Option Addr} {N K ca cb n p : Nat} {L M : List ByteArray} (w : World) (hn : n ≤ 16777216) (hN : N ≤ 1000) (hK : K ≤ 1000) (hp : 1 ≤ p ∧ p ≤ 4096) (h1 : Pr w a N ca L n) (h2 : Pr w b K cb M n) :
    Calls Try.prog 11 #[.slice a N ca, .slice b K cb, .int .i64 p] w fun e w' => ∃ G, e = .returned (.tuple #[.slice (some ⟨G, 0, none⟩) N N, .int .i64 0]) ∧ Ll w' (some ⟨G, 0, none⟩) N K (lf n L M) ∧ Below w.heap.size w w' := by
  obtain ⟨l, h1⟩ := h1
  obtain ⟨m, h2⟩ := h2
  obtain ⟨hE, hS⟩ := pr_gE hn hN hK h1 h2
  have h := strip_ok l m a b ca cb p w h1.2.2.2.1 h2.2.2.2.1 (by omega) (by omega) hE hp.1 hp.2
  rw [h1.1, h2.1] at h
  refine h.mono ?_
  rintro e w' ⟨G, bb, rfl, hgr, hb⟩
  exact ⟨G, rfl, (hgr.congr hS).list, hb⟩
/-- packed, as Pr says it. -/
theorem packed_pr (ao : Option Addr) (L : List ByteArray) (N ca n : Nat) (w : World) (eN : L.length = N) (hL : N ≤ 1000) (hn : n ≤ 16777216) (hs : ∀ s ∈ L, OkS n s) (h : Ls w ao L) :
    Calls Try.prog 13 #[.slice ao N ca] w fun e w' => ∃ bo cb, e = .returned (.slice bo N cb) ∧ Pr w' bo N cb L n ∧ Below w.heap.size w w' := by
  refine (packed_any ao L N ca n w eN hL hn (fun s hs' => (hs s hs').1) h).mono ?_
  rintro e w' ⟨bo, l, cb, rfl, h1, h2, h3, h4, h5⟩
  exact ⟨bo, cb, rfl, ⟨l, h1, eN, h2, h3, h4⟩, h5⟩
/-- texts, as a list. -/
theorem texts_ls (ao : Option Addr) (n ca len K : Nat) (w : World) (hK : K ≤ 100) (hlen : len ≤ 1000) (h : Lby w ao n) :
    Calls Try.prog 12 #[.slice ao n ca, .int .i64 K, .int .i64 len] w fun e w' => ∃ bo L cb, e = .returned (.slice bo (min n K) cb) ∧ L.length = min n K ∧ min n K ≤ cb ∧ Ls w' bo L ∧ (∀ s ∈ L, OkS len s) ∧ Below w.heap.size w w' := by
  refine (texts_any ao n ca len K w hK hlen h).mono ?_
  rintro e w' ⟨v, L, rfl, hl, ht⟩
  obtain ⟨bo, cb, e, h1, h2⟩ := ls_own ht.o
  rw [hl] at e h1
  exact ⟨bo, L, cb, by rw [e], hl, h1, h2, ht.k, ht.b⟩
end Go.Proofs.Ytakoicolffkbmaa
