/- CACHE: the lock, keys, the map. -/
import Derived.Test.YtpjcpikafpnmpaaRK0
import Derived.Conc.MuLone
import Derived.Maps.OwnSet
import Derived.Lib.SlBytesRow
import Derived.StringKeys
namespace Go.Proofs.Ytpjcpikafpnmpaa
open Go.RowKit Go.ChangeMaps

abbrev muLink : Go.Conc.Locks.MuLink := { lock := 27, unlock := 28, ilock := 47, iunlock := 48, lockSlow := 60, unlockSlow := 63, disable := 56, enable := 58, acquire := 59, relMerge := 61, cas32 := 57, add32 := 62, tMutex := 69, tIMutex := 67, tPMutex := 95, tPIMutex := 101, tPI32 := 103, tUP := 105, tNoCopy := 64, tU32 := 65 }
theorem muLib : Go.Conc.Locks.MuLib Try.prog muLink :=
  ⟨Try.func27, Try.func28, Try.func47, Try.func48, Try.func56, Try.func58, Try.func59, Try.func61, Try.func57, Try.func62,
   Try.underlying67, Try.runUnderlying67, Try.sizeOf67, Try.isAgg67, Try.zeroValue67,
   Try.underlying69, Try.runUnderlying69, Try.sizeOf69, Try.isAgg69, Try.zeroValue69,
   Try.underlying95, Try.runUnderlying95, Try.sizeOf95, Try.isAgg95, Try.zeroValue95,
   Try.underlying101, Try.runUnderlying101, Try.sizeOf101, Try.isAgg101, Try.zeroValue101,
   Try.underlying103, Try.runUnderlying103, Try.sizeOf103, Try.isAgg103, Try.zeroValue103,
   Try.underlying105, Try.runUnderlying105, Try.sizeOf105, Try.isAgg105, Try.zeroValue105,
   Try.underlying64, Try.runUnderlying64, Try.sizeOf64, Try.isAgg64, Try.zeroValue64,
   Try.underlying21, Try.runUnderlying21, Try.sizeOf21, Try.isAgg21, Try.zeroValue21, (by kernel_rfl)⟩

/-- Bytes lie in memory. -/
def Bs (w : World) (ao : Option Addr) (s : ByteArray) : Prop := s.size = 0 ∨ ∃ g o, ao = some ⟨g, o, none⟩ ∧ Lib.Bytes w g o s
theorem Bs.block {w w' : World} {ao : Option Addr} {s : ByteArray} (h : Bs w ao s) (hk : ∀ g o, ao = some ⟨g, o, none⟩ → w'.heap[g]? = w.heap[g]?) : Bs w' ao s := by
  rcases h with h | ⟨g, o, rfl, h⟩
  · exact .inl h
  · exact .inr ⟨g, o, rfl, fun i hi => (World.cell?_of_block (a := ⟨g, o + i, none⟩) (hk g o rfl)).trans (h i hi)⟩
theorem Bs.below {w w' : World} {ao : Option Addr} {s : ByteArray} (h : Bs w ao s) (hb : Below w.heap.size w w') : Bs w' ao s := by
  rcases h with h | ⟨g, o, rfl, h⟩
  · exact .inl h
  · exact .inr ⟨g, o, rfl, fun i hi => keepc hb (h i hi)⟩
theorem und_bytes : Try.prog.underlying 28 = some (.slice 5) := Try.underlying28
theorem und_u8 : Try.prog.underlying 5 = some (.int .u8) := Try.underlying5
theorem und_str : Try.prog.underlying 9 = some .string := Try.underlying9
theorem size_zero {s : ByteArray} (h : s.size = 0) : s = ⟨#[]⟩ := by
  apply ByteArray.ext
  apply Array.eq_empty_of_size_eq_zero
  exact h
/-- 'string(key)'. -/
theorem conv_str {w : World} {ao : Option Addr} {s : ByteArray} {cap : Nat} (h : Bs w ao s) : (convert 28 9 (.slice ao s.size cap)).run Try.prog w = .ok (.string s) w := by
  rcases h with h | ⟨g, o, rfl, h⟩
  · rw [h, run_convert_bytes_string w _ _ _ _ 0 cap und_bytes und_u8 und_str, size_zero h]
    cases ao <;> simp [Conv.bytesToString, loadCells]
    all_goals rfl
  · exact Lib.run_convert_whole w _ _ _ und_bytes und_u8 und_str g o s h cap

/-- A pointer to a block. -/
abbrev ptr (o : Option Nat) : Value := .pointer (o.map fun b => ⟨b, 0, none⟩)
/-- How an entry of the map reads. -/
def pel : Value → Option (DataW Unit × List MemPlace)
  | .pointer none => some (.nil, [])
  | .pointer (some ⟨b, 0, none⟩) => some (.lit (.int .i64 b), [])
  | _ => none
theorem pel_ptr (b : Nat) : pel (ptr (some b)) = some (.lit (.int .i64 b), []) := rfl
theorem pel_nil {v : Value} {ps : List MemPlace} (h : pel v = some (.nil, ps)) : v = ptr none := by
  unfold pel at h
  split at h
  · rfl
  · simp at h
  · cases h
theorem pel_int {v : Value} {b : Nat} {ps : List MemPlace} (h : pel v = some (.lit (.int .i64 b), ps)) : v = ptr (some b) := by
  unfold pel at h
  split at h
  · simp at h
  · rename_i b'
    simp at h
    obtain ⟨h, _⟩ := h
    have : b' = b := by omega
    subst this; rfl
  · cases h
theorem kstr : Maps.Keyed Try.prog 9 := Maps.string_keyed und_str
theorem tmap : Try.prog.underlying 70 = some (.map 9 71) := Try.underlying70
theorem zptr (w : World) : (zeroValue 71).run Try.prog w = .ok (.pointer none) w := Try.zeroValue71 w
theorem key_of {s : ByteArray} (h : s.size ≤ 9223372036854775807) : keyOf Try.prog 9 (.string s) = some (.string s.data.toList) := Go.WideMaps.keyOf_string_mk und_str (by unfold maxLen; exact h)
theorem str_inj {s t : ByteArray} (h : (Lit.string s.data.toList) = .string t.data.toList) : s = t := by
  injection h with h
  exact ByteArray.ext (Array.toList_inj.1 h)
theorem World.ownsMap.tight {P : Program} {k : TypeId} {R : Value → Option (DataW Unit × List MemPlace)} {w : World} {b n : Nat} {D : DataW Unit} (h : w.ownsMap P k R b n D) : w.ownsMap P k R b (Maps.size D) D := by
  obtain ⟨es, clock, hb, F, _, rfl⟩ := h
  exact ⟨es, clock, hb, F, by simp [Maps.size, length_sorted], rfl⟩
/-- 'clear(m)'. -/
theorem clear_map {w : World} {bm n : Nat} {D : DataW Unit} (h : w.ownsMap Try.prog 9 pel bm n D) : ∃ w', (∀ ty, (Builtin.clear_ #[70] ty #[.map (some bm)]).run Try.prog w = .ok (.tuple #[]) w') ∧ w'.ownsMap Try.prog 9 pel bm 0 (.map []) ∧ w.mapTurned w' bm := by
  obtain ⟨es, clock, hb, F, hs, rfl⟩ := h
  refine ⟨setBlock w bm (.map #[] clock), fun ty => ?_, ⟨#[], clock, heap_setBlock_same hb _, ⟨by simp, MapKept.stamped_empty clock, by simp⟩, by simp, rfl⟩, ⟨es, clock, #[], clock, hb, rfl⟩⟩
  simp [Builtin.clear_, run_underlying tmap, MapKept.run_getObj_map hb, MapKept.run_setObj_map _ hb, Result.andThen, setBlock]
end Go.Proofs.Ytpjcpikafpnmpaa
