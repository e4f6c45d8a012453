/- THE DOCUMENT'S OWN SUM (heddleref8.Sum). -/
import Derived.Test.YtbpglkhgggokcaaDoorCW2
namespace Go.Proofs.YtbpglkhgggokcaaDoor
open Go.RowKit

theorem csn_step (b r : Nat) : csn (b + 1) r = cs1 (csn b r) := csn_add b 1 r
theorem rsub32 (v : Nat) (h : v < 4294967296) : IntKind.u32.wrap (4294967295 - (v : Int)) = ((4294967295 - v : Nat) : Int) := by
  simp [IntKind.wrap, IntKind.signed, IntKind.bits]; omega
set_option maxHeartbeats 1600000 in
set_option maxRecDepth 100000 in
theorem rsum_any (lo : Option Addr) (cl : Nat) (L : List (List Nat)) (w : World) (hJ : L.length ≤ 9223372036854775807) (hj : ∀ l ∈ L, l.length ≤ 9223372036854775807) (h : Bys w lo L) :
    Calls Tryd.prog 19 #[.slice lo L.length cl] w fun e w' => e = .returned (.int .u32 (crc (cat L) : Nat)) ∧ w' = w := by
  have H := hid1 h
  have HJ := hid1 hj
  clear h hj
  go_enter Tryd.func19, Tryd.ntmps19
  go_wp2
  go_loop [3, 4] (fun s i => ∃ (k v : Nat), k ≤ L.length ∧ i = .int .i64 k ∧ s = .int .u32 v ∧ Hid (v = cr 4294967295 (cat (L.take k)))) (fun _ i => L.length - (intOf i).toNat)
  case atStart => exact ⟨0, 4294967295, Nat.zero_le _, rfl, rfl, hid1 rfl⟩
  case round =>
    obtain ⟨k, v, hk, rfl, rfl, HV⟩ := hrel
    have ik0 : (0 : Int) ≤ (k : Int) := by omega
    have hv : v < 4294967296 := by
      rw [HV.out]
      refine cr_lt (by decide) fun b hb => ?_
      obtain ⟨m, hm, hb⟩ := List.mem_flatten.1 hb
      obtain ⟨i, hi⟩ := List.getElem?_of_mem (List.mem_of_mem_take hm)
      obtain ⟨_, _, _, _, _, _, z⟩ := H.out i m hi
      exact z.byte b hb
    by_cases hlt : k < L.length
    · have ik : (k : Int) < (L.length : Int) := by omega
      obtain ⟨gl, ol, ao, c, rfl, cj, bj⟩ := H.out k L[k] (List.getElem?_eq_getElem hlt)
      have hlm := HJ.out L[k] (List.getElem_mem hlt)
      have HN : Hid (∀ l, l = L[k] → cr v l = cr 4294967295 (cat (L.take (k + 1)))) := hid1 (fun l hl => by
        rw [HV.out, hl, ← cr_app]
        congr 1
        unfold cat
        rw [List.take_succ_eq_append_getElem hlt, List.flatten_append]
        simp only [List.flatten_cons, List.flatten_nil, List.append_nil])
      obtain ⟨l, el⟩ : ∃ l, L[k] = l := ⟨_, rfl⟩
      replace HN : Hid (cr v l = cr 4294967295 (cat (L.take (k + 1)))) := hid1 (HN.out l el.symm)
      rw [el] at cj bj hlm
      have HB := hid1 bj
      clear bj el
      go_wp2_with fail
      go_loop [3, 5] (fun s i => ∃ (j x : Nat), j ≤ l.length ∧ i = .int .i64 j ∧ s = .int .u32 x ∧ Hid (x = cr v (l.take j))) (fun _ i => l.length - (intOf i).toNat)
      case atStart => exact ⟨0, v, Nat.zero_le _, rfl, rfl, hid1 rfl⟩
      case round =>
        obtain ⟨j, x, hj, rfl, rfl, HX⟩ := hrel
        have ij0 : (0 : Int) ≤ (j : Int) := by omega
        by_cases hlt2 : j < l.length
        · have ij : (j : Int) < (l.length : Int) := by omega
          obtain ⟨g, o, y, rfl, ey, cy, hy⟩ := HB.out.at hlt2
          have xl : x < 4294967296 := by rw [HX.out]; exact cr_lt hv (fun b hb => HB.out.byte b (List.mem_of_mem_take hb))
          have HN2 : Hid (cb x y = cr v (l.take (j + 1))) := hid1 (by
            rw [HX.out, List.take_add_one, ey]
            simp [cr])
          have wy : IntKind.u32.wrap (y : Int) = (y : Int) := by simp [IntKind.wrap, IntKind.signed, IntKind.bits]; omega
          have e1 := u32_xor_nat x y xl (by omega)
          have l1 : x ^^^ y < 4294967296 := Nat.xor_lt_two_pow (n := 32) xl (by omega)
          have HN3 : Hid (csn 8 (x ^^^ y) = cr v (l.take (j + 1))) := hid1 (by rw [← HN2.out]; rfl)
          obtain ⟨r, er⟩ : ∃ r, x ^^^ y = r := ⟨_, rfl⟩
          rw [er] at e1 l1 HN3
          clear er HN2
          go_wp2_with fail
          go_loop [3, 6] (fun s i => ∃ (b z : Nat), b ≤ 8 ∧ i = .int .i64 b ∧ s = .int .u32 z ∧ Hid (z = csn b r)) (fun _ i => 8 - (intOf i).toNat)
          case atStart => exact ⟨0, r, Nat.zero_le _, rfl, rfl, hid1 rfl⟩
          case round =>
            obtain ⟨b, z, hb, rfl, rfl, HZ⟩ := hrel
            have zl : z < 4294967296 := by rw [HZ.out]; exact csn_lt b l1
            by_cases hlt3 : b < 8
            · have ib : (b : Int) < 8 := by omega
              obtain ⟨d, ed⟩ : ∃ d, z / 2 = d := ⟨_, rfl⟩
              have d1 : (z : Int) / 2 = (d : Int) := by omega
              have dl : d < 4294967296 := by omega
              have x2 := u32_xor_nat d 3988292384 dl (by decide)
              rw [show ((3988292384 : Nat) : Int) = 3988292384 from rfl] at x2
              by_cases hodd : z % 2 = 1
              · have m1 : (z : Int) % 2 = 1 := by omega
                have HQ : Hid (d ^^^ 3988292384 = csn (b + 1) r) := hid1 (by rw [csn_step, ← HZ.out]; unfold cs1; rw [if_pos hodd, ed])
                clear hodd ed
                go_wp2_with fail
                exact ⟨⟨b + 1, _, by omega, by go_num, rfl, HQ⟩, by simp [intOf]; omega⟩
              · have m1 : (z : Int) % 2 = 0 := by omega
                have HQ : Hid (d = csn (b + 1) r) := hid1 (by rw [csn_step, ← HZ.out]; unfold cs1; rw [if_neg hodd, ed])
                clear hodd ed
                go_wp2_with fail
                exact ⟨⟨b + 1, _, by omega, by go_num, rfl, HQ⟩, by simp [intOf]; omega⟩
            · obtain rfl : b = 8 := by omega
              go_wp2
              exact ⟨⟨j + 1, z, by omega, by go_num, rfl, hid1 (by rw [HZ.out]; exact HN3.out)⟩, by simp [intOf]; omega⟩
        · obtain rfl : j = l.length := by omega
          go_wp2
          exact ⟨⟨k + 1, x, by omega, by go_num, rfl, hid1 (by rw [HX.out, List.take_length]; exact HN.out)⟩, by simp [intOf]; omega⟩
    · obtain rfl : k = L.length := by omega
      have ws := rsub32 v hv
      go_wp2
      go_ret
      refine ⟨ret_int ?_, rfl⟩
      rw [HV.out, List.take_length]
      rfl
end Go.Proofs.YtbpglkhgggokcaaDoor
