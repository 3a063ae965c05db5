/-
  The developers' reading of all fields; Get, First.
-/
import Derived.Test.YtieheclnkopfpaaGreatDoorWnext
namespace Go.Proofs.YtieheclnkopfpaaGreatDoor.ww
open Go.RowKit Go.Proofs.YtieheclnkopfpaaGreatDoor.tr Go.Proofs.YtieheclnkopfpaaGreatDoor.wm Go.Proofs.YtieheclnkopfpaaGreatDoor.vi Go.Proofs.YtieheclnkopfpaaGreatDoor.cur
set_option linter.unusedVariables false
set_option linter.unusedSimpArgs false

end Go.Proofs.YtieheclnkopfpaaGreatDoor.ww
