/-
  Package field keeps its contracts (XFcheck, XFlevel, XFcl).
-/
import Derived.Test.YtbebdaglkjhbjaaGreatDoorBundU
import Derived.Test.YtbebdaglkjhbjaaGreatDoorLaw08
import Derived.Test.YtbebdaglkjhbjaaGreatDoorBundF
namespace Go.Proofs.YtbebdaglkjhbjaaGreatDoor.ff
open Go.RowKit Go.Proofs.YtbebdaglkjhbjaaGreatDoor.tr
set_option linter.unusedVariables false

def core : law08.FCore where
  Tab := tb.Tab
  kept := tb.kept
  awake7 := fun w hT => law07.Awake_any uu.ucore w hT
  ofNum := num_any
  check := fun ts w S v hs h => check_any ts w S v hs h

end Go.Proofs.YtbebdaglkjhbjaaGreatDoor.ff
