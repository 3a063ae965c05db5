/-
  Package field keeps its contracts (XFcheck, XFlevel, XFcl).
-/
import Derived.Test.YtigmfbmjfjkfjaaDoorBundU
import Derived.Test.YtigmfbmjfjkfjaaDoorLaw08
import Derived.Test.YtigmfbmjfjkfjaaDoorBundF
namespace Go.Proofs.YtigmfbmjfjkfjaaDoor.ff
open Go.RowKit Go.Proofs.YtigmfbmjfjkfjaaDoor.tr
set_option linter.unusedVariables false

end Go.Proofs.YtigmfbmjfjkfjaaDoor.ff
