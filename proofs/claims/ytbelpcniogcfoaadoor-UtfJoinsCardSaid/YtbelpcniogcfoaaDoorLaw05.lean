/-
  FrameReads: for any bytes, any text and any number.
-/
import Derived.Test.YtbelpcniogcfoaaDoorFparse
import Derived.Test.YtbelpcniogcfoaaDoorLaw04
namespace Go.Proofs.YtbelpcniogcfoaaDoor.law05
open Go.RowKit Go.Proofs.YtbelpcniogcfoaaDoor.fm Go.Proofs.YtbelpcniogcfoaaDoor.crcm Go.Proofs.YtbelpcniogcfoaaDoor.vi
set_option linter.unusedVariables false
set_option linter.unusedSimpArgs false

theorem Awake04_any (w : World) :
    Calls Tryd.prog 67 #[] w fun e w' => e = .returned (.bool true) ∧ w.grownBy w' none := by
  go_enter Tryd.func67, Tryd.ntmps67
  go_wp2_with (go_at_call 77; refine (law04.awake_any _).mono ?_; rintro e w' ⟨rfl, g⟩)
  go_ret
  exact ⟨rfl, g⟩

theorem fr_nil : str (fr []) = ⟨#[81, 70, 0, 0, 0, 0, 0]⟩ := by
  have h1 : enc 0 = [0] := by rw [enc_small (by decide)]; rfl
  have h2 : sumN [] = 0 := by simp [sumN, fold]
  unfold fr hd
  rw [List.length_nil, h1, h2]
  rfl

theorem awake_any (w : World) :
    Calls Tryd.prog 60 #[] w fun e w' => e = .returned (.bool true) ∧ w.grownBy w' none := by
  have h1 := fun w => wrap_ok ⟨#[]⟩ (by decide) w
  rw [show str (fr (⟨#[]⟩ : ByteArray).data.toList) = ⟨#[81, 70, 0, 0, 0, 0, 0]⟩ from fr_nil] at h1
  go_enter Tryd.func60, Tryd.ntmps60
  go_wp2_with fail
  refine (h1 _).mono ?_
  rintro e w1 ⟨rfl, g1⟩
  go_wp2_with fail
  refine (Awake04_any _).mono ?_
  rintro e w2 ⟨rfl, g2⟩
  go_wp2_with fail
  go_ret
  exact ⟨rfl, only_trans g1 g2⟩

end Go.Proofs.YtbelpcniogcfoaaDoor.law05
