/-
  This deframer, as layer 6's own test of itself asks for it.
-/
import Derived.Test.YtbelpcniogcfoaaDoorDiface
namespace Go.Proofs.YtbelpcniogcfoaaDoor.df
open Go.RowKit
set_option linter.unusedVariables false

def core : law06.Core where
  Def := DefP
  ty := fun h => h.types
  kept := fun h g hd => h.kept g hd
  new := new_any
  feed := feed_any
  err := err_any

end Go.Proofs.YtbelpcniogcfoaaDoor.df
