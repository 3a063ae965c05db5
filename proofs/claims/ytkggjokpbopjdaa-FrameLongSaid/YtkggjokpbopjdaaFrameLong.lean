/-
  FrameLong holds: at the bound of 65536 bytes, in whatever memory, the law is true; without a condition.
-/
import Derived.Test.YtkggjokpbopjdaaRows
import Derived.WalkKit
import Derived.ProofKit
import Derived.OpenShut
import Derived.ShutString
import Derived.ChangeOld
import Derived.Below
import Derived.Test.YtkggjokpbopjdaaLaw05L
namespace Go.Proofs.Ytkggjokpbopjdaa.frameLong
open Go.ChangeShapes Go.WideShapes Go.ChangeAt Go.RowKit
open Go.ChangeMaps (open_string shut_string)
set_option linter.unusedVariables false

theorem own : ownKnob Try.prog.godebug = none := by kernel_rfl
theorem laidOut : laidOutB Try.prog = true := by kernel_rfl