/-
  The statement of layer 3.
-/
import Derived.Test.YtbelpcniogcfoaaDoorZigzag
namespace Go.Proofs.YtbelpcniogcfoaaDoor.law03
open Go.RowKit Go.Proofs.YtbelpcniogcfoaaDoor.cur Go.Proofs.YtbelpcniogcfoaaDoor.vi
set_option linter.unusedVariables false

theorem Awake02_any (w : World) :
    Calls Tryd.prog 87 #[] w fun e w' => e = .returned (.bool true) ∧ w.grownBy w' none := by
  go_enter Tryd.func87, Tryd.ntmps87
  go_wp2_with (go_at_call 90; refine (law02.awake_any _).mono ?_; rintro e w' ⟨rfl, g⟩)
  go_ret
  exact ⟨rfl, g⟩

theorem awake_any (w : World) :
    Calls Tryd.prog 85 #[] w fun e w' => e = .returned (.bool true) ∧ w.grownBy w' none := by
  have h1 := fun w => zz.map_any (-3) (by decide) (by decide) w
  have h2 := fun w => zz.back_any 5 (by decide) w
  rw [show zz.zig (-3) = 5 from rfl] at h1
  rw [show zz.zag 5 = -3 from rfl] at h2
  go_enter Tryd.func85, Tryd.ntmps85
  go_wp2_with (first
    | (go_at_call 87; refine (Awake02_any _).mono ?_; rintro e w2 ⟨rfl, g2⟩)
    | (go_at_call 88; refine (h1 _).mono ?_; rintro e w3 ⟨rfl, rfl⟩)
    | (go_at_call 89; refine (h2 _).mono ?_; rintro e w3 ⟨rfl, rfl⟩))
  go_ret
  exact ⟨rfl, g2⟩

end Go.Proofs.YtbelpcniogcfoaaDoor.law03
