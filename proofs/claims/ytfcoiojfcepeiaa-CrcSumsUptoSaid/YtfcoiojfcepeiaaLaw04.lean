/-
  The statements of layer 4: the example.
-/
import Derived.Test.YtfcoiojfcepeiaaCrcRef
import Derived.Test.YtfcoiojfcepeiaaLaw03
namespace Go.Proofs.Ytfcoiojfcepeiaa.law04
open Go.RowKit Go.Proofs.Ytfcoiojfcepeiaa.crc Go.Proofs.Ytfcoiojfcepeiaa.crcm
set_option linter.unusedVariables false

/-- The sum of one text. -/
theorem sum_one (s : ByteArray) (hs : s.size ≤ maxLen) (w : World) :
    Calls Try.prog 24 #[.slice (some ⟨w.heap.size, 0, none⟩) 1 1] (w.alloc (.cells #[.string s] 9)) fun e w' => e = .returned (.int .u32 (sumN s.data.toList : Nat)) ∧ w.grownBy w' none := by
  have h := sum_any (some ⟨w.heap.size, 0, none⟩) 1 1 [s] (w.alloc (.cells #[.string s] 9)) ⟨rfl, by simpa using hs, .inr ⟨_, 0, rfl, by omega, by unfold maxLen; omega, fun i x hx => by
    have : i = 0 := by have := (List.getElem?_eq_some_iff.1 hx).1; simp at this; omega
    subst this
    simp at hx
    subst hx
    exact World.cell?_alloc_at _ _ _ _ rfl⟩⟩ (by unfold maxLen; omega)
  rw [show cat [s] = s.data.toList by simp [cat]] at h
  exact h.mono fun e w' ⟨he, hg⟩ => ⟨he, only_trans (only_alloc (only_refl _ _) _) hg⟩

theorem Awake03_any (w : World) :
    Calls Try.prog 32 #[] w fun e w' => e = .returned (.bool true) ∧ w.grownBy w' none := by
  go_enter Try.func32, Try.ntmps32
  go_wp2_with (go_at_call 6; refine (law03.awake_any _).mono ?_; rintro e w' ⟨rfl, g⟩)
  go_ret
  exact ⟨rfl, g⟩

theorem awake_any (w : World) :
    Calls Try.prog 18 #[] w fun e w' => e = .returned (.bool true) ∧ w.grownBy w' none := by
  have h1 := fun w => sum_one ⟨#[49, 50, 51, 52, 53, 54, 55, 56, 57]⟩ (by decide) w
  rw [show sumN (⟨#[49, 50, 51, 52, 53, 54, 55, 56, 57]⟩ : ByteArray).data.toList = 3421780262 from example_sum] at h1
  go_enter Try.func18, Try.ntmps18
  go_wp2_with (first
    | (go_at_call 32; refine (Awake03_any _).mono ?_; rintro e w2 ⟨rfl, g2⟩)
    | (go_at_call 24; refine (h1 _).mono ?_; rintro e w3 ⟨rfl, g3⟩))
  go_ret
  exact ⟨rfl, only_trans g2 g3⟩

end Go.Proofs.Ytfcoiojfcepeiaa.law04
