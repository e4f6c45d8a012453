/- lay. -/
import Derived.Test.YtohkiknhjcibgaaBW14
import Derived.Test.YtohkiknhjcibgaaBM7
import Derived.Deep.DeepCutAuto
namespace Go.Proofs.Ytohkiknhjcibgaa
open Go.RowKit

theorem But.refl (g : Nat) (w : World) : But g w w := ⟨rfl, rfl, rfl, Nat.le_refl _, fun _ _ _ => rfl⟩
theorem But.drew {g : Nat} {w w' : World} (h : But g w w') : But g w w'.drew := ⟨h.os, h.tape, h.output, h.size, h.block⟩
theorem But.cell {g b o : Nat} {v : Value} {w w' : World} (h : But g w w') (hb : b ≠ g) (c : w.cell? ⟨b, o, none⟩ = some v) : w'.cell? ⟨b, o, none⟩ = some v :=
  (World.cell?_of_block (w := w) (w' := w') (a := ⟨b, o, none⟩) (h.block b (lt_of_cell c) hb)).trans c
theorem But.trans {g : Nat} {a b c : World} (h : But g a b) (k : But g b c) : But g a c :=
  ⟨k.os.trans h.os, k.tape.trans h.tape, k.output.trans h.output, Nat.le_trans h.size k.size, fun i hi hn => (k.block i (Nat.lt_of_lt_of_le hi h.size) hn).trans (h.block i hi hn)⟩
end Go.Proofs.Ytohkiknhjcibgaa
