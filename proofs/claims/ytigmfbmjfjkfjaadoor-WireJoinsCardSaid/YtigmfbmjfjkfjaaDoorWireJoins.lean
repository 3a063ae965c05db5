/-
  WireJoins holds: for any two lists of ones, in whatever memory, the law is true.
-/
import Derived.Test.YtigmfbmjfjkfjaaDoorRows
import Derived.WalkKit
import Derived.ProofKit
import Derived.OpenShut
import Derived.ShutString
import Derived.ChangeOld
import Derived.Below
import Derived.LaidMore
import Derived.Lay
import Derived.SevenTiedAt
import Derived.Stop.Joined
import Derived.Test.YtigmfbmjfjkfjaaDoorTie
import Derived.Test.YtigmfbmjfjkfjaaDoorCards
import Derived.Test.YtigmfbmjfjkfjaaDoorBundU
import Derived.Test.YtigmfbmjfjkfjaaDoorLaw09J
import Derived.Test.YtigmfbmjfjkfjaaDoorBundT
import Derived.Test.YtigmfbmjfjkfjaaDoorWwi
namespace Go.Proofs.YtigmfbmjfjkfjaaDoor.wireJoins
open Go.ChangeShapes Go.WideShapes Go.ChangeAt Go.RowKit
open Go.ChangeMaps (open_string shut_string)
set_option linter.unusedVariables false

theorem own : ownKnob Tryd.prog.godebug = none := by kernel_rfl
theorem laidOut : laidOutB Tryd.prog = true := by kernel_rfl