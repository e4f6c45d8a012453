/- PARAMETERS: steps. -/
import Derived.Test.YtpjcpikafpnmpaaAK23
import Derived.ProofKit
import Derived.OpenShut
import Derived.ChangeOld
import Derived.SizedLaws
import Derived.ChangeSlices
import Derived.Deep.Slices
namespace Go.Proofs.Ytpjcpikafpnmpaa
open Go.ChangeShapes Go.WideShapes Go.ChangeAt Go.RowKit
set_option maxRecDepth 100000

theorem own : ownKnob Try.prog.godebug = none := by kernel_rfl
theorem laidOut : laidOutB Try.prog = true := by kernel_rfl
theorem i64_of_wf {x : Int} (h : (Lit.int .i64 x).wf = true) : -9223372036854775808 ≤ x ∧ x ≤ 9223372036854775807 := by
  simp [Lit.wf, IntKind.min, IntKind.max, IntKind.signed, IntKind.bits] at h
  exact ⟨by omega, by omega⟩
theorem u8_of_wf {x : Int} (h : (Lit.int .u8 x).wf = true) : 0 ≤ x ∧ x < 256 := by
  simp [Lit.wf, IntKind.min, IntKind.max, IntKind.signed, IntKind.bits] at h
  exact ⟨by omega, by omega⟩
theorem reach_is : reachBytes = 140737488351232 := by decide
theorem add_at (b o n : Nat) : Addr.add ⟨b, o, none⟩ n = ⟨b, o + n, none⟩ := by
  unfold Addr.add
  by_cases h : n = 0
  · subst h; rfl
  · rw [if_neg h]
theorem weightsAll_mem {H : Type} {P : Program} {e : TypeId} : ∀ {l : List (DataW H)} {d : DataW H}, d ∈ l → ∀ n ∈ d.weights P e, n ∈ DataW.weightsAll P e l
  | x :: l, d, hd, n, hn => by
    rw [DataW.weightsAll, List.mem_append]
    rcases List.mem_cons.mp hd with rfl | h
    · exact Or.inl hn
    · exact Or.inr (weightsAll_mem h n hn)
theorem cells_op : Try.prog.cellsOf 33 = 5 := by kernel_rfl
theorem cells_int : Try.prog.cellsOf 3 = 1 := by kernel_rfl
theorem cells_u8 : Try.prog.cellsOf 5 = 1 := by kernel_rfl
theorem cells_i64 : Try.prog.cellsOf 2 = 1 := by kernel_rfl
theorem cells_bytes : Try.prog.cellsOf 28 = 1 := by kernel_rfl
theorem cells_i64s : Try.prog.cellsOf 29 = 1 := by kernel_rfl
theorem cells_res : Try.prog.cellsOf 31 = 2 := by kernel_rfl
theorem bytes_u8 : Try.prog.bytesOf 5 = 1 := by kernel_rfl
theorem bytes_i64 : Try.prog.bytesOf 2 = 8 := by kernel_rfl
theorem bytes_op : Try.prog.bytesOf 33 = 72 := by kernel_rfl
theorem und_ops : Try.prog.underlying 22 = some (.slice 33) := by kernel_rfl
/-- A step. -/
structure Oq where
  kd : Int
  on : Int
  ka : Option Addr
  kc : Nat
  k : ByteArray
  la : Option Addr
  lc : Nat
  l : List Int
  ag : Int
instance : Inhabited Oq := ⟨⟨0, 0, none, 0, ⟨#[]⟩, none, 0, [], 0⟩⟩
/-- Its five cells, and what they lead to. -/
structure Oc (W : World) (g o : Nat) (x : Oq) : Prop where
  c0 : W.cell? ⟨g, o, none⟩ = some (.int .i64 x.kd)
  c1 : W.cell? ⟨g, o + 1, none⟩ = some (.int .i64 x.on)
  c2 : W.cell? ⟨g, o + 2, none⟩ = some (.slice x.ka x.k.size x.kc)
  c3 : W.cell? ⟨g, o + 3, none⟩ = some (.slice x.la x.l.length x.lc)
  c4 : W.cell? ⟨g, o + 4, none⟩ = some (.int .i64 x.ag)
  kb : Bs W x.ka x.k
  kz : x.k.size ≤ 140737488351232
  nm : Nm W x.la x.l
  nz : x.l.length ≤ 17592186043904
  nn : x.la = none → x.lc = 0
/-- Steps lie in memory. -/
def Lo (W : World) (ao : Option Addr) (xs : List Oq) : Prop := ∀ (j : Nat) (x : Oq), xs[j]? = some x → ∃ g o, ao = some ⟨g, o, none⟩ ∧ Oc W g (o + j * 5) x
section
variable {H : Type} {enc : TypeId × Value → H} {W : World} {fuel : Nat} {cs : List Value} {x : DataW H × List MemPlace}
theorem fldZ {t : TypeId} {fs : Array Field} (ht : Try.prog.underlying t = some (.struct fs)) (h : DataW.trod enc Try.prog W 0 (fun _ => true) true fuel t cs = some x) (hz : ∀ n ∈ x.1.weights Try.prog t, n ≤ reachBytes) (i : Nat) (f : Field) (hi : fs[i]? = some f) :
    ∃ n y, DataW.trod enc Try.prog W 0 (fun _ => true) true n f.type ((cs.drop f.offset).take (Try.prog.cellsOf f.type)) = some y ∧ ∀ m ∈ y.1.weights Try.prog f.type, m ≤ reachBytes := by
  obtain ⟨xs, n, _, ex, _, hxl, hf⟩ := DataW.trod_struct ht h
  have g := hf i f hi
  have hlt : i < xs.length := by
    rw [hxl]
    exact (Array.getElem?_eq_some_iff.1 hi).1
  rw [List.getElem?_eq_getElem hlt] at g
  refine ⟨n, _, g, fun m hm => hz m ?_⟩
  rw [ex]
  simp only [DataW.weights, ht]
  refine DataW.weights_mem_each (j := i) (t := f.type) (d := xs[i].1) ?_ ?_ _ hm
  · simp [hi]
  · rw [List.getElem?_map, List.getElem?_eq_getElem hlt]
    rfl
theorem open_bytes (h : DataW.trod enc Try.prog W 0 (fun _ => true) true fuel 28 cs = some x) (hz : ∀ n ∈ x.1.weights Try.prog 28, n ≤ reachBytes) :
    ∃ (ao : Option Addr) (s : ByteArray) (cap : Nat), cs = [.slice ao s.size cap] ∧ s.size ≤ 140737488351232 ∧ Bs W ao s := by
  rcases open_ints und_bytes und_u8 cells_u8 h with ⟨hc, hx⟩ | ⟨a, len, cap, zs, hc, _, hl, hm, hzl, hx, hcell, hwf⟩
  · exact ⟨none, ⟨#[]⟩, 0, hc, by decide, .inl rfl⟩
  · simp only [if_true] at hzl
    have hlt : len ≤ zs.length := by omega
    have hs : (⟨((zs.take len).map fun n => UInt8.ofNat n.toNat).toArray⟩ : ByteArray).size = len := by simp [ByteArray.size]; omega
    refine ⟨some a, ⟨((zs.take len).map fun n => UInt8.ofNat n.toNat).toArray⟩, cap, by rw [hs]; exact hc, ?_, ?_⟩
    · rw [hs]
      have w1 := hz (((lits (H := H) .u8 (zs.take len)).length + (lits (H := H) .u8 (zs.drop len)).length) * 1) (by
        rw [hx]
        simp only [DataW.weights, und_bytes, bytes_u8]
        exact List.mem_cons_self)
      rw [reach_is] at w1
      simp [lits] at w1
      omega
    · by_cases h0 : len = 0
      · exact .inl (by rw [hs, h0])
      · obtain ⟨b, o, sp⟩ := a
        have c0 := hcell 0 (by omega)
        have := World.cell?_spot c0
        simp [Addr.add] at this
        subst this
        refine .inr ⟨b, o, rfl, fun i hi => ?_⟩
        have hi' : i < len := by rw [hs] at hi; exact hi
        have c := hcell i (by omega)
        rw [add_at] at c
        rw [c]
        have e : zs.getD i 0 = zs[i] := by simp [List.getD, show i < zs.length by omega]
        have hw := u8_of_wf (hwf _ (List.getElem_mem (show i < zs.length by omega)))
        rw [e]
        have e2 : (⟨((zs.take len).map fun n => UInt8.ofNat n.toNat).toArray⟩ : ByteArray)[i] = UInt8.ofNat (zs[i]).toNat := by
          show (((zs.take len).map fun n => UInt8.ofNat n.toNat).toArray)[i] = _
          simp
        rw [e2]
        congr 2
        have : (UInt8.ofNat (zs[i]).toNat).toNat = (zs[i]).toNat % 256 := rfl
        rw [this]
        omega
theorem open_nums (h : DataW.trod enc Try.prog W 0 (fun _ => true) true fuel 29 cs = some x) (hz : ∀ n ∈ x.1.weights Try.prog 29, n ≤ reachBytes) :
    ∃ (ao : Option Addr) (l : List Int) (cap : Nat), cs = [.slice ao l.length cap] ∧ l.length ≤ 17592186043904 ∧ Nm W ao l ∧ (ao = none → cap = 0) := by
  rcases open_ints und_i64s Try.underlying2 cells_i64 h with ⟨hc, hx⟩ | ⟨a, len, cap, zs, hc, _, hl, hm, hzl, hx, hcell, hwf⟩
  · exact ⟨none, [], 0, hc, by decide, fun j x hj => by simp at hj, fun _ => rfl⟩
  · simp only [if_true] at hzl
    have hs : (zs.take len).length = len := by simp; omega
    refine ⟨some a, zs.take len, cap, by rw [hs]; exact hc, ?_, fun j x hj => ?_, fun e => by cases e⟩
    · rw [hs]
      have w1 := hz (((lits (H := H) .i64 (zs.take len)).length + (lits (H := H) .i64 (zs.drop len)).length) * 8) (by
        rw [hx]
        simp only [DataW.weights, und_i64s, bytes_i64]
        exact List.mem_cons_self)
      rw [reach_is] at w1
      simp [lits] at w1
      omega
    · have hj' : j < len := by have := (List.getElem?_eq_some_iff.1 hj).1; omega
      obtain ⟨b, o, sp⟩ := a
      have c0 := hcell 0 (by omega)
      have := World.cell?_spot c0
      simp [Addr.add] at this
      subst this
      have c := hcell j (by omega)
      rw [add_at] at c
      rw [List.getElem?_take_of_lt hj'] at hj
      refine ⟨b, o, rfl, ?_⟩
      rw [c]
      simp [List.getD, hj]
theorem open_op (hh : DataW.trod enc Try.prog W 0 (fun _ => true) true fuel 33 cs = some x) (hz : ∀ n ∈ x.1.weights Try.prog 33, n ≤ reachBytes) :
    ∃ q : Oq, cs = [.int .i64 q.kd, .int .i64 q.on, .slice q.ka q.k.size q.kc, .slice q.la q.l.length q.lc, .int .i64 q.ag] ∧ Bs W q.ka q.k ∧ q.k.size ≤ 140737488351232 ∧ Nm W q.la q.l ∧ q.l.length ≤ 17592186043904 ∧ (q.la = none → q.lc = 0) := by
  have hl : cs.length = 5 := by
    obtain ⟨_, _, _, _, hlen, _, _⟩ := DataW.trod_struct Try.underlying33 hh
    exact hlen.trans cells_op
  obtain ⟨_, y0, t0, _⟩ := fldZ Try.underlying33 hh hz 0 _ rfl
  obtain ⟨_, y1, t1, _⟩ := fldZ Try.underlying33 hh hz 1 _ rfl
  obtain ⟨_, y2, t2, z2⟩ := fldZ Try.underlying33 hh hz 2 _ rfl
  obtain ⟨_, y3, t3, z3⟩ := fldZ Try.underlying33 hh hz 3 _ rfl
  replace t0 : DataW.trod enc Try.prog W 0 (fun _ => true) true _ 3 ((cs.drop 0).take (Try.prog.cellsOf 3)) = some y0 := t0
  replace t1 : DataW.trod enc Try.prog W 0 (fun _ => true) true _ 3 ((cs.drop 1).take (Try.prog.cellsOf 3)) = some y1 := t1
  replace t2 : DataW.trod enc Try.prog W 0 (fun _ => true) true _ 28 ((cs.drop 2).take (Try.prog.cellsOf 28)) = some y2 := t2
  replace t3 : DataW.trod enc Try.prog W 0 (fun _ => true) true _ 31 ((cs.drop 3).take (Try.prog.cellsOf 31)) = some y3 := t3
  rw [cells_int] at t0 t1
  rw [cells_bytes] at t2
  rw [cells_res] at t3
  obtain ⟨kd, e0, _, _⟩ := DataW.trod_int Try.underlying3 t0
  obtain ⟨on, e1, _, _⟩ := DataW.trod_int Try.underlying3 t1
  obtain ⟨ka, k, kc, e2, kz, kb⟩ := open_bytes t2 z2
  obtain ⟨_, u0, s0, v0⟩ := fldZ Try.underlying31 t3 z3 0 _ rfl
  obtain ⟨_, u1, s1, _⟩ := fldZ Try.underlying31 t3 z3 1 _ rfl
  replace s0 : DataW.trod enc Try.prog W 0 (fun _ => true) true _ 29 ((((cs.drop 3).take 2).drop 0).take (Try.prog.cellsOf 29)) = some u0 := s0
  replace s1 : DataW.trod enc Try.prog W 0 (fun _ => true) true _ 3 ((((cs.drop 3).take 2).drop 1).take (Try.prog.cellsOf 3)) = some u1 := s1
  rw [cells_i64s] at s0
  rw [cells_int] at s1
  obtain ⟨la, l, lc, e3, nz, nm, nn⟩ := open_nums s0 v0
  obtain ⟨ag, e4, _, _⟩ := DataW.trod_int Try.underlying3 s1
  match cs, hl with
  | [a0, a1, a2, a3, a4], _ =>
    simp at e0 e1 e2 e3 e4
    subst e0 e1 e2 e3 e4
    exact ⟨⟨kd, on, ka, kc, k, la, lc, l, ag⟩, rfl, kb, kz, nm, nz, nn⟩
end
theorem open_ops {H : Type} {enc : TypeId × Value → H} {W : World} {base : Nat} {v : Value} {d : DataW H} {p : List MemPlace}
    (hv : Value.okWide Try.prog W .any base 22 v) (h : DataW.Trod enc Try.prog W 0 (fun _ => true) true 22 v d p) (hz : ∀ n ∈ d.weights Try.prog 22, n ≤ reachBytes) :
    ∃ (ao : Option Addr) (xs : List Oq) (cap : Nat), v = .slice ao xs.length cap ∧ xs.length ≤ 1954687338211 ∧ Lo W ao xs := by
  obtain ⟨a0, len, cap, rfl⟩ := okWide_slice und_ops hv
  obtain ⟨fuel, hf⟩ := h
  rcases Deep.open_slice und_ops hf with ⟨hc, hx⟩ | ⟨a, len', cap', mm, n, D, Pl, hc, _, hl, hm, hmm, hx, hcell⟩
  · simp [Value.cells] at hc
    obtain ⟨rfl, rfl, rfl⟩ := hc
    exact ⟨none, [], 0, rfl, by simp, fun j x hj => by simp at hj⟩
  · simp [Value.cells] at hc
    obtain ⟨rfl, rfl, rfl⟩ := hc
    simp only [if_true] at hmm
    have hd : d = .slice ((List.range len).map D) ((List.range (mm - len)).map fun j => D (len + j)) := congrArg Prod.fst hx
    have hsz : len ≤ 1954687338211 := by
      have w1 := hz ((((List.range len).map D).length + ((List.range (mm - len)).map fun j => D (len + j)).length) * 72) (by
        rw [hd]
        simp only [DataW.weights, und_ops, bytes_op]
        exact List.mem_cons_self)
      rw [reach_is] at w1
      simp at w1
      omega
    obtain ⟨b, o, s⟩ := a
    have each : ∀ j, j < len → ∃ q : Oq, s = none ∧ Oc W b (o + j * 5) q := fun j hj => by
      obtain ⟨cs1, h1, h2⟩ := hcell j (by omega)
      rw [cells_op] at h1
      obtain ⟨_, hlen, hc1⟩ := World.cells?_some h1
      have hzj : ∀ n ∈ (D j).weights Try.prog 33, n ≤ reachBytes := fun n hn => hz n (by
        rw [hd]
        simp only [DataW.weights, und_ops]
        refine List.mem_cons_of_mem _ (List.mem_append.mpr (Or.inl ?_))
        exact weightsAll_mem (List.mem_map.mpr ⟨j, List.mem_range.mpr hj, rfl⟩) n hn)
      obtain ⟨q, rfl, kb, kz, nm, nz, nn⟩ := open_op h2 hzj
      have e0 := hc1 0 (by decide)
      have e1 := hc1 1 (by decide)
      have e2 := hc1 2 (by decide)
      have e3 := hc1 3 (by decide)
      have e4 := hc1 4 (by decide)
      rw [Deep.add_add] at e0 e1 e2 e3 e4
      have hs : s = none := by
        obtain ⟨cs0, h0, _⟩ := hcell 0 (by omega)
        rw [cells_op] at h0
        obtain ⟨_, hlen0, hc0⟩ := World.cells?_some h0
        have e2 := hc0 0 (by decide)
        rw [Deep.add_add, List.getElem?_eq_getElem (by omega)] at e2
        have := World.cell?_spot e2
        simpa [Addr.add] using this
      subst hs
      rw [add_at] at e0 e1 e2 e3 e4
      exact ⟨q, rfl, by simpa using e0, by simpa [Nat.add_assoc] using e1, by simpa [Nat.add_assoc] using e2, by simpa [Nat.add_assoc] using e3, by simpa [Nat.add_assoc] using e4, kb, kz, nm, nz, nn⟩
    obtain ⟨f, hf⟩ := Deep.choose_lt each
    have hlx : ((List.range len).map f).length = len := by simp
    refine ⟨some ⟨b, o, s⟩, (List.range len).map f, cap, by rw [hlx], by rw [hlx]; exact hsz, fun j x hj => ?_⟩
    have hj' : j < len := by have := (List.getElem?_eq_some_iff.1 hj).1; omega
    rw [List.getElem?_map, List.getElem?_range hj'] at hj
    simp at hj
    subst hj
    obtain ⟨e, oc⟩ := hf j hj'
    exact ⟨b, o, by rw [e], oc⟩
theorem Bs.lt {w : World} {ao : Option Addr} {s : ByteArray} (h : Bs w ao s) : s.size = 0 ∨ ∀ a, ao = some a → a.block < w.heap.size := by
  rcases h with h | ⟨g, o, rfl, h⟩
  · exact .inl h
  · by_cases h0 : s.size = 0
    · exact .inl h0
    · refine .inr fun a e => ?_
      injection e with e
      subst e
      exact lt_of_cell (h 0 (by omega))
/-- Old bytes lie in none of the blocks that are new. -/
theorem Bs.bo {w : World} {ao : Option Addr} {s : ByteArray} (h : Bs w ao s) {S : Nat → Prop} (hS : ∀ k, S k → w.heap.size ≤ k) : Bo S ao s :=
  h.lt.imp id fun h a e hs => by have := h a e; have := hS _ hs; omega
theorem Bs.old {w w' : World} {ao : Option Addr} {s : ByteArray} (h : Bs w ao s) (hb : Below w.heap.size w w') : Bs w' ao s := h.below hb
end Go.Proofs.Ytpjcpikafpnmpaa
