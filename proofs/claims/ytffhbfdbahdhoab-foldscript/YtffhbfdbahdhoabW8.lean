import Derived.Test.YtffhbfdbahdhoabW7
import Derived.Test.YtffhbfdbahdhoabM6
namespace Go.Proofs.Ytffhbfdbahdhoab.Wd
open Go.RowKit Go.Shelf

/-- What the listed variables hold. -/
structure Laid (w : World) : Prop where
  pow : Lib.TabIs Try.prog w "internal/strconv.uint64pow10" .u64 Lib.pow10Tab
  tens : Lib.TabIs Try.prog w "heddle/wide.tens" .u64 Lib.pow10Tab
theorem ret_str {a b : ByteArray} (h : a = b) : Ending.returned (.string a) = .returned (.string b) := by rw [h]
theorem bytes2 (a b : List UInt8) : (⟨a.toArray⟩ : ByteArray) ++ ⟨b.toArray⟩ = ⟨(a ++ b).toArray⟩ := by
  apply ByteArray.ext; simp
theorem bytes3 (a b c : List UInt8) : (⟨a.toArray⟩ : ByteArray) ++ ⟨b.toArray⟩ ++ ⟨c.toArray⟩ = ⟨(a ++ b ++ c).toArray⟩ := by rw [bytes2, bytes2]
theorem bytes4 (x a b c : List UInt8) : (⟨x.toArray⟩ : ByteArray) ++ (⟨a.toArray⟩ ++ ⟨b.toArray⟩ ++ ⟨c.toArray⟩) = ⟨(x ++ (a ++ b ++ c)).toArray⟩ := by rw [bytes2, bytes2, bytes2]
end Go.Proofs.Ytffhbfdbahdhoab.Wd
