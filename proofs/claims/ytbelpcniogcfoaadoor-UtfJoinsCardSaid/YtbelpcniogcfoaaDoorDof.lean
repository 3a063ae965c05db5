/-
  The document's stream: Of.
-/
import Derived.Test.YtbelpcniogcfoaaDoorFref
import Derived.Test.YtbelpcniogcfoaaDoorAppT
namespace Go.Proofs.YtbelpcniogcfoaaDoor.fm
open Go.RowKit Go.Proofs.YtbelpcniogcfoaaDoor.vi Go.Proofs.YtbelpcniogcfoaaDoor.cur
set_option linter.unusedVariables false
set_option linter.unusedSimpArgs false

end Go.Proofs.YtbelpcniogcfoaaDoor.fm
