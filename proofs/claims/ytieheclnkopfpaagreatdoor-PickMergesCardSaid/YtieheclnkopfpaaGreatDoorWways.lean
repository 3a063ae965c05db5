/-
  The developers' reader of fields: ways, checkHead, and how each type is read (num, text, list).
-/
import Derived.Test.YtieheclnkopfpaaGreatDoorWmore
import Derived.Test.YtieheclnkopfpaaGreatDoorWread
import Derived.Test.YtieheclnkopfpaaGreatDoorBundA
import Derived.Laws.EntriesVeiled
namespace Go.Proofs.YtieheclnkopfpaaGreatDoor.ww
open Go.RowKit Go.Proofs.YtieheclnkopfpaaGreatDoor.tr Go.Proofs.YtieheclnkopfpaaGreatDoor.wm Go.Proofs.YtieheclnkopfpaaGreatDoor.vi Go.Proofs.YtieheclnkopfpaaGreatDoor.cur
set_option linter.unusedVariables false
set_option linter.unusedSimpArgs false

/-- A field's variable. -/
def Slot (w : World) (f a y n : Nat) (x : ByteArray) (lv : Value) : Prop :=
  w.heap[f]? = some (.cells #[.int .u64 (a : Nat), .int .i64 (y : Nat), .int .u64 (n : Nat), .string x, lv] 38 (0, 0))

/-- What one of the ways hands back. -/
def WayP (sub : Option (List UInt8 → List Tree × Nat)) (w : World) (c f a y : Nat) (s : ByteArray) (k : Nat) (e : Ending) (w' : World) : Prop :=
  e = .returned (.int .i64 ((bodyW sub y (s.data.toList.drop k)).err : Nat)) ∧ Chg (fun q => q = c ∨ q = f) w w' ∧
  ∃ (k' n : Nat) (x : ByteArray) (lv : Value) (S' : Nat → Prop), Cur w' c s k' ∧ Slot w' f a y n x lv ∧ (∀ q, S' q → w.heap.size ≤ q ∧ q < w'.heap.size) ∧
    ((bodyW sub y (s.data.toList.drop k)).err = 0 → k' = k + (bodyW sub y (s.data.toList.drop k)).len ∧ n = (bodyW sub y (s.data.toList.drop k)).num ∧ x = txt (bodyW sub y (s.data.toList.drop k)).text ∧ Rd w' S' lv (bodyW sub y (s.data.toList.drop k)).list)

end Go.Proofs.YtieheclnkopfpaaGreatDoor.ww
