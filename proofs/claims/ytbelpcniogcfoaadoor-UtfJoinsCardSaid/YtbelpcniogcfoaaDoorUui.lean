/-
  Package utf keeps its contracts (XUcalls), and layer 6's laws are awake.
-/
import Derived.Test.YtbelpcniogcfoaaDoorUcalls
import Derived.Test.YtbelpcniogcfoaaDoorDcore
namespace Go.Proofs.YtbelpcniogcfoaaDoor.uu
open Go.RowKit Go.Proofs.YtbelpcniogcfoaaDoor.um
set_option linter.unusedVariables false

theorem awake6_any (w : World) : Calls Tryd.prog 33 #[] w fun e w' => e = .returned (.bool true) ∧ w.grownBy w' none := by
  go_enter Tryd.func33, Tryd.ntmps33
  go_wp2_with (go_at_call 49; refine (law06.awake_any df.core _).mono ?_; rintro e w' ⟨rfl, g⟩)
  go_ret
  exact ⟨rfl, g⟩

def ui : law07.UI where
  Tab := tb.Tab
  kept := tb.kept
  awake6 := awake6_any
  good := fun s w hs hT => good_any s w (by unfold maxLen; omega) hT
  check := fun s least most w hs hT => check_any s least most w (by unfold maxLen; omega) hT
  count := fun s w hs hT => count_any s w (by omega)
  trim := fun s most w hs h1 h2 hT => trim_any s most w hs h1 h2

end Go.Proofs.YtbelpcniogcfoaaDoor.uu
