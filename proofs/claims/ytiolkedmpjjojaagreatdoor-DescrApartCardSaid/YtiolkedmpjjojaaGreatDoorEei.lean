/-
  Package entry keeps its contracts (XEent).
-/
import Derived.Test.YtiolkedmpjjojaaGreatDoorEent
import Derived.Test.YtiolkedmpjjojaaGreatDoorLaw10A
import Derived.Test.YtiolkedmpjjojaaGreatDoorFfi
namespace Go.Proofs.YtiolkedmpjjojaaGreatDoor.ee
open Go.RowKit Go.Proofs.YtiolkedmpjjojaaGreatDoor.em Go.Proofs.YtiolkedmpjjojaaGreatDoor.cur Go.Proofs.YtiolkedmpjjojaaGreatDoor.law11
set_option linter.unusedVariables false

theorem awake10_any (w : World) (hT : tb.Tab w) :
    Calls Tryz.prog 39 #[] w fun e w' => e = .returned (.bool true) ∧ w.grownBy w' none := by
  go_enter Tryz.func39, Tryz.ntmps39
  go_wp2_with (go_at_call 61; refine (law10.awake_any _ hT).mono ?_; rintro e w' ⟨rfl, g⟩)
  go_ret
  exact ⟨rfl, g⟩

def ei : EI where
  Tab := tb.Tab
  kept := tb.kept
  awake10 := fun w hT => awake10_any w hT
  check := fun x w h1 h2 hT => check_any x w (by unfold maxLen; omega) (by unfold maxLen; omega) hT
  put := fun x w h1 h2 => put_any x w (by omega) (by omega)
  cmp := fun x y w _ _ _ _ => cmp_any x y w
  next_nil := Next_nil
  next := fun W w b s k hT hw hb hc _ => (next_any W w b s k hT hw hb hc).mono fun e w' ⟨k', h1, h2, h3, h4⟩ => ⟨k', h1, h2, h3, only_new hw h4 hb⟩

end Go.Proofs.YtiolkedmpjjojaaGreatDoor.ee
