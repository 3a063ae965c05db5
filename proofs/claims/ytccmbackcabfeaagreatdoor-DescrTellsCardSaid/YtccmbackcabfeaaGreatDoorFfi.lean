/-
  Package field keeps its contracts (XFcheck, XFlevel, XFcl).
-/
import Derived.Test.YtccmbackcabfeaaGreatDoorBundU
import Derived.Test.YtccmbackcabfeaaGreatDoorLaw08
import Derived.Test.YtccmbackcabfeaaGreatDoorBundF
namespace Go.Proofs.YtccmbackcabfeaaGreatDoor.ff
open Go.RowKit Go.Proofs.YtccmbackcabfeaaGreatDoor.tr
set_option linter.unusedVariables false

def core : law08.FCore where
  Tab := tb.Tab
  kept := tb.kept
  awake7 := fun w hT => law07.Awake_any uu.ucore w hT
  ofNum := num_any
  check := fun ts w S v hs h => check_any ts w S v hs h

end Go.Proofs.YtccmbackcabfeaaGreatDoor.ff
