/-
  The statements of layer 4: the example.
-/
import Derived.Test.YtbelpcniogcfoaaDoorCrcRef
import Derived.Test.YtbelpcniogcfoaaDoorLaw03
namespace Go.Proofs.YtbelpcniogcfoaaDoor.law04
open Go.RowKit Go.Proofs.YtbelpcniogcfoaaDoor.crc Go.Proofs.YtbelpcniogcfoaaDoor.crcm
set_option linter.unusedVariables false

theorem Awake03_any (w : World) :
    Calls Tryd.prog 82 #[] w fun e w' => e = .returned (.bool true) ∧ w.grownBy w' none := by
  go_enter Tryd.func82, Tryd.ntmps82
  go_wp2_with (go_at_call 85; refine (law03.awake_any _).mono ?_; rintro e w' ⟨rfl, g⟩)
  go_ret
  exact ⟨rfl, g⟩

theorem awake_any (w : World) :
    Calls Tryd.prog 77 #[] w fun e w' => e = .returned (.bool true) ∧ w.grownBy w' none := by
  have h1 := fun w => sum_one ⟨#[49, 50, 51, 52, 53, 54, 55, 56, 57]⟩ (by decide) w
  rw [show sumN (⟨#[49, 50, 51, 52, 53, 54, 55, 56, 57]⟩ : ByteArray).data.toList = 3421780262 from example_sum] at h1
  go_enter Tryd.func77, Tryd.ntmps77
  go_wp2_with (first
    | (go_at_call 82; refine (Awake03_any _).mono ?_; rintro e w2 ⟨rfl, g2⟩)
    | (go_at_call 76; refine (h1 _).mono ?_; rintro e w3 ⟨rfl, g3⟩))
  go_ret
  exact ⟨rfl, only_trans g2 g3⟩

end Go.Proofs.YtbelpcniogcfoaaDoor.law04
