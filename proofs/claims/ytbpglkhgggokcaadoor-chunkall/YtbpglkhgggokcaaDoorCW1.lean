/- CHUNKS: Sum. -/
import Derived.Test.YtbpglkhgggokcaaDoorCW0
import Derived.Test.YtbpglkhgggokcaaDoorCM2
import Derived.Laws.BitsAllLaws
namespace Go.Proofs.YtbpglkhgggokcaaDoor
open Go.RowKit

/-- A list of lists of bytes in memory. -/
def Bys (W : World) (lo : Option Addr) (L : List (List Nat)) : Prop := ∀ (j : Nat) (l : List Nat), L[j]? = some l → ∃ (gl ol : Nat) (ao : Option Addr) (c : Nat), lo = some ⟨gl, ol, none⟩ ∧ W.cell? ⟨gl, ol + j, none⟩ = some (.slice ao l.length c) ∧ By W ao l
theorem Bys.keep {W X : World} {lo : Option Addr} {L : List (List Nat)} (h : Bys W lo L) (hb : Below W.heap.size W X) : Bys X lo L := fun j l hj => by
  obtain ⟨gl, ol, ao, c, e, d, b⟩ := h j l hj
  exact ⟨gl, ol, ao, c, e, keepc hb d, b.keep hb⟩
/-- All their bytes. -/
def cat (L : List (List Nat)) : List Nat := L.flatten
theorem csn4_lt16 {i : Nat} (h : i < 16) : csn 4 i < 4294967296 := csn_lt 4 (by omega)
theorem half_and (s : Nat) (hs : s < 4294967296) : bits .and .u32 (s : Int) 15 = ((s % 16 : Nat) : Int) := by
  have := u32_and_nat s 15 hs (by decide)
  rw [show ((15 : Nat) : Int) = 15 from rfl] at this
  rw [this]
  exact congrArg _ (Nat.and_two_pow_sub_one_eq_mod s 4)
theorem half_xor (s : Nat) (hs : s < 4294967296) : bits .xor .u32 ((s / 16 : Nat) : Int) ((csn 4 (s % 16) : Nat) : Int) = ((csn 4 s : Nat) : Int) := by
  rw [u32_xor_nat _ _ (by omega) (csn4_lt16 (Nat.mod_lt _ (by decide))), csn4_table s]
theorem compl_u32 (x : Nat) (h : x < 4294967296) : bits .xor .u32 (if IntKind.u32.signed = true then -1 else IntKind.u32.max) (x : Int) = ((4294967295 - x : Nat) : Int) := by
  have e : bits .xor .u32 (if IntKind.u32.signed = true then -1 else IntKind.u32.max) (x : Int) = ((4294967295 ^^^ x : Nat) : Int) := u32_xor_nat 4294967295 x (by decide) h
  rw [e, not_xor h, Nat.xor_comm]
theorem compl_u32' (x : Nat) (h : x < 4294967296) : bits .xor .u32 IntKind.u32.max (x : Int) = ((4294967295 - x : Nat) : Int) := compl_u32 x h
theorem ret_int {k : IntKind} {a b : Int} (h : a = b) : Ending.returned (.int k a) = .returned (.int k b) := by rw [h]
set_option maxHeartbeats 800000 in
set_option maxRecDepth 100000 in
theorem sum_any (lo : Option Addr) (cl : Nat) (L : List (List Nat)) (w : World) (LD : Laid w) (hJ : L.length ≤ 9223372036854775807) (hj : ∀ l ∈ L, l.length ≤ 9223372036854775807) (h : Bys w lo L) :
    Calls Tryd.prog 11 #[.slice lo L.length cl] w fun e w' => e = .returned (.int .u32 (crc (cat L) : Nat)) ∧ w' = w := by
  have H := hid1 h
  have HL := hid1 LD
  have HJ := hid1 hj
  clear h LD hj
  go_enter Tryd.func11, Tryd.ntmps11
  go_wp2
  go_loop [3, 10] (fun s i => ∃ (k v : Nat), k ≤ L.length ∧ i = .int .i64 k ∧ s = .int .u32 v ∧ Hid (v = cr 4294967295 (cat (L.take k)))) (fun _ i => L.length - (intOf i).toNat)
  case atStart => exact ⟨0, 4294967295, Nat.zero_le _, rfl, rfl, hid1 rfl⟩
  case round =>
    obtain ⟨k, v, hk, rfl, rfl, HV⟩ := hrel
    have ik0 : (0 : Int) ≤ (k : Int) := by omega
    by_cases hlt : k < L.length
    · have ik : (k : Int) < (L.length : Int) := by omega
      obtain ⟨gl, ol, ao, c, rfl, cj, bj⟩ := H.out k L[k] (List.getElem?_eq_getElem hlt)
      have hlm := HJ.out L[k] (List.getElem_mem hlt)
      have HN : Hid (∀ l, l = L[k] → cr v l = cr 4294967295 (cat (L.take (k + 1)))) := hid1 (fun l hl => by
        rw [HV.out, hl, ← cr_app]
        congr 1
        unfold cat
        rw [List.take_succ_eq_append_getElem hlt, List.flatten_append]
        simp only [List.flatten_cons, List.flatten_nil, List.append_nil])
      obtain ⟨l, el⟩ : ∃ l, L[k] = l := ⟨_, rfl⟩
      replace HN : Hid (cr v l = cr 4294967295 (cat (L.take (k + 1)))) := hid1 (HN.out l el.symm)
      rw [el] at cj bj hlm
      clear el
      have hv : v < 4294967296 := by
        rw [HV.out]
        refine cr_lt (by decide) fun b hb => ?_
        obtain ⟨m, hm, hb⟩ := List.mem_flatten.1 hb
        obtain ⟨i, hi⟩ := List.getElem?_of_mem (List.mem_of_mem_take hm)
        obtain ⟨_, _, _, _, _, _, z⟩ := H.out i m hi
        exact z.byte b hb
      have HB := hid1 bj
      clear bj
      go_wp2_with fail
      go_loop [3, 16] (fun s i => ∃ (j x : Nat), j ≤ l.length ∧ i = .int .i64 j ∧ s = .int .u32 x ∧ Hid (x = cr v (l.take j))) (fun _ i => l.length - (intOf i).toNat)
      case atStart => exact ⟨0, v, Nat.zero_le _, rfl, rfl, hid1 rfl⟩
      case round =>
        obtain ⟨j, x, hj, rfl, rfl, HX⟩ := hrel
        have ij0 : (0 : Int) ≤ (j : Int) := by omega
        by_cases hlt2 : j < l.length
        · have ij : (j : Int) < (l.length : Int) := by omega
          obtain ⟨g, o, y, rfl, ey, cy, hy⟩ := HB.out.at hlt2
          have xl : x < 4294967296 := by rw [HX.out]; exact cr_lt hv (fun b hb => HB.out.byte b (List.mem_of_mem_take hb))
          have HN2 : Hid (cb x y = cr v (l.take (j + 1))) := hid1 (by
            rw [HX.out, List.take_add_one, ey]
            simp [cr])
          have x0 : (0 : Int) ≤ (x : Int) := by omega
          have wy : IntKind.u32.wrap (y : Int) = (y : Int) := by simp [IntKind.wrap, IntKind.signed, IntKind.bits]; omega
          have e1 := u32_xor_nat x y xl (by omega)
          have l1 : x ^^^ y < 4294967296 := Nat.xor_lt_two_pow (n := 32) xl (by omega)
          have HN3 : Hid (csn 4 (csn 4 (x ^^^ y)) = cr v (l.take (j + 1))) := hid1 (by rw [← HN2.out, cb_half])
          obtain ⟨s1, es1⟩ : ∃ s1, x ^^^ y = s1 := ⟨_, rfl⟩
          rw [es1] at e1 l1 HN3
          have e2 := half_and s1 l1
          have e3 := half_xor s1 l1
          have c2 := HL.out (s1 % 16) (Nat.mod_lt _ (by decide))
          have l2 : csn 4 s1 < 4294967296 := csn_lt 4 l1
          obtain ⟨s2, es2⟩ : ∃ s2, csn 4 s1 = s2 := ⟨_, rfl⟩
          rw [es2] at e3 HN3 l2
          have e4 := half_and s2 l2
          have e5 := half_xor s2 l2
          have c3 := HL.out (s2 % 16) (Nat.mod_lt _ (by decide))
          have l3 : csn 4 s2 < 4294967296 := csn_lt 4 l2
          obtain ⟨s3, es3⟩ : ∃ s3, csn 4 s2 = s3 := ⟨_, rfl⟩
          rw [es3] at e5 HN3 l3
          have b1 : s1 % 16 < 16 := Nat.mod_lt _ (by decide)
          have b2 : s2 % 16 < 16 := Nat.mod_lt _ (by decide)
          obtain ⟨t1, et1⟩ : ∃ t1, s1 % 16 = t1 := ⟨_, rfl⟩
          obtain ⟨t2, et2⟩ : ∃ t2, s2 % 16 = t2 := ⟨_, rfl⟩
          rw [et1] at e2 e3 c2 b1
          rw [et2] at e4 e5 c3 b2
          obtain ⟨d1, ed1⟩ : ∃ d1, s1 / 16 = d1 := ⟨_, rfl⟩
          obtain ⟨d2, ed2⟩ : ∃ d2, s2 / 16 = d2 := ⟨_, rfl⟩
          have f1 : (s1 : Int) / 16 = (d1 : Int) := by omega
          have f2 : (s2 : Int) / 16 = (d2 : Int) := by omega
          rw [ed1] at e3
          rw [ed2] at e5
          obtain ⟨q1, eq1⟩ : ∃ q1, csn 4 t1 = q1 := ⟨_, rfl⟩
          obtain ⟨q2, eq2⟩ : ∃ q2, csn 4 t2 = q2 := ⟨_, rfl⟩
          rw [eq1] at e3 c2
          rw [eq2] at e5 c3
          have i1 : (t1 : Int) < 16 := by omega
          have i2 : (t2 : Int) < 16 := by omega
          have j1 : (0 : Int) ≤ (t1 : Int) := by omega
          have j2 : (0 : Int) ≤ (t2 : Int) := by omega
          clear es1 es2 es3 et1 et2 ed1 ed2 eq1 eq2 b1 b2
          go_wp2_with fail
          exact ⟨⟨j + 1, s3, by omega, by go_num, rfl, HN3⟩, by simp [intOf]; omega⟩
        · obtain rfl : j = l.length := by omega
          have HN2 := HN.out
          go_wp2
          exact ⟨⟨k + 1, x, by omega, by go_num, rfl, hid1 (by rw [HX.out, List.take_length]; exact HN2)⟩, by simp [intOf]; omega⟩
    · obtain rfl : k = L.length := by omega
      go_wp2
      go_ret
      refine ⟨ret_int ?_, rfl⟩
      have hv : v < 4294967296 := by
        rw [HV.out]
        refine cr_lt (by decide) fun b hb => ?_
        obtain ⟨m, hm, hb⟩ := List.mem_flatten.1 hb
        obtain ⟨i, hi⟩ := List.getElem?_of_mem (List.mem_of_mem_take hm)
        obtain ⟨_, _, _, _, _, _, z⟩ := H.out i m hi
        exact z.byte b hb
      rw [compl_u32' v hv, HV.out, List.take_length]
      rfl
end Go.Proofs.YtbpglkhgggokcaaDoor
