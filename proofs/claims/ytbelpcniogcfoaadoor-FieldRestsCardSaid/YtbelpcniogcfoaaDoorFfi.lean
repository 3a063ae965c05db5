/-
  Package field keeps its contracts (XFcheck, XFlevel, XFcl).
-/
import Derived.Test.YtbelpcniogcfoaaDoorBundU
import Derived.Test.YtbelpcniogcfoaaDoorLaw08
import Derived.Test.YtbelpcniogcfoaaDoorBundF
namespace Go.Proofs.YtbelpcniogcfoaaDoor.ff
open Go.RowKit Go.Proofs.YtbelpcniogcfoaaDoor.tr
set_option linter.unusedVariables false

def fi : law08.FI where
  Tab := tb.Tab
  kept := tb.kept
  awake7 := fun w hT => law07.Awake_any uu.ui w hT
  ofNum := num_any
  check := fun ts w S v hs h => check_any ts w S v hs h
  depth := fun ts w S v hs h => depth_any ts w S v hs h
  count := fun ts w S v hs h => count_any ts w S v hs h
  same := fun ts us w S S' v u hs hs' h h' => same_any ts us w S S' v u hs hs' h h'
  clone := fun ts w S v hs h => clone_any ts w S v hs h
  ofList := fun a ts w S v hs h => ofList_any a ts w S v hs h

end Go.Proofs.YtbelpcniogcfoaaDoor.ff
