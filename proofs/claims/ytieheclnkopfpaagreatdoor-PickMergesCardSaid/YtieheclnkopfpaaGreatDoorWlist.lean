/-
  The developers' reader of fields: a List.
-/
import Derived.Test.YtieheclnkopfpaaGreatDoorWways
namespace Go.Proofs.YtieheclnkopfpaaGreatDoor.ww
open Go.RowKit Go.Proofs.YtieheclnkopfpaaGreatDoor.tr Go.Proofs.YtieheclnkopfpaaGreatDoor.wm Go.Proofs.YtieheclnkopfpaaGreatDoor.vi Go.Proofs.YtieheclnkopfpaaGreatDoor.cur
set_option linter.unusedVariables false
set_option linter.unusedSimpArgs false

/-- What the reading of all that is left hands back. -/
def AllQ (w : World) (r c : Nat) (q : List Tree × Nat) (e : Ending) (w' : World) : Prop :=
  ∃ v S', e = .returned (.tuple #[v, .int .i64 (q.2 : Nat)]) ∧ OwnF 38 w.heap.size S' w' v q.1 ∧ (∀ k, S' k → w.heap.size ≤ k) ∧ Chg (fun k => k = r ∨ k = c) w w'

end Go.Proofs.YtieheclnkopfpaaGreatDoor.ww
