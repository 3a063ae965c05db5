/-
  FrameReads: for any bytes, any text and any number.
-/
import Derived.Test.YtkggjokpbopjdaaFparse
import Derived.Test.YtkggjokpbopjdaaLaw04
namespace Go.Proofs.Ytkggjokpbopjdaa.law05
open Go.RowKit Go.Proofs.Ytkggjokpbopjdaa.fm Go.Proofs.Ytkggjokpbopjdaa.crcm Go.Proofs.Ytkggjokpbopjdaa.vi
set_option linter.unusedVariables false
set_option linter.unusedSimpArgs false

theorem Awake04_any (w : World) :
    Calls Try.prog 29 #[] w fun e w' => e = .returned (.bool true) ∧ w.grownBy w' none := by
  go_enter Try.func29, Try.ntmps29
  go_wp2_with (go_at_call 52; refine (law04.awake_any _).mono ?_; rintro e w' ⟨rfl, g⟩)
  go_ret
  exact ⟨rfl, g⟩

theorem fr_nil : str (fr []) = ⟨#[81, 70, 0, 0, 0, 0, 0]⟩ := by
  have h1 : enc 0 = [0] := by rw [enc_small (by decide)]; rfl
  have h2 : sumN [] = 0 := by simp [sumN, fold]
  unfold fr hd
  rw [List.length_nil, h1, h2]
  rfl

theorem awake_any (w : World) :
    Calls Try.prog 9 #[] w fun e w' => e = .returned (.bool true) ∧ w.grownBy w' none := by
  have h1 := fun w => wrap_ok ⟨#[]⟩ (by decide) w
  rw [show str (fr (⟨#[]⟩ : ByteArray).data.toList) = ⟨#[81, 70, 0, 0, 0, 0, 0]⟩ from fr_nil] at h1
  go_enter Try.func9, Try.ntmps9
  go_wp2_with fail
  refine (h1 _).mono ?_
  rintro e w1 ⟨rfl, g1⟩
  go_wp2_with fail
  refine (Awake04_any _).mono ?_
  rintro e w2 ⟨rfl, g2⟩
  go_wp2_with fail
  go_ret
  exact ⟨rfl, only_trans g1 g2⟩

set_option maxHeartbeats 1000000 in
set_option maxRecDepth 100000 in
theorem reads_long (p s : ByteArray) (hp : p.size ≤ maxLen) (hs : s.size ≤ maxLen) (hl : 4000 < p.size ∨ 4000 < s.size) (n : Int) (W : World) :
    Calls Try.prog 3 #[.string p, .string s, .int .i64 n] W fun e w' => e = .returned (.bool true) ∧ W.grownBy w' none := by
  unfold maxLen at hs hp
  rcases (show 4000 < p.size ∨ (¬ 4000 < p.size ∧ 4000 < s.size) by omega) with h | ⟨h, h'⟩ <;> clear hl
  all_goals
    go_enter Try.func3, Try.ntmps3
    go_wp2_with fail
    refine (awake_any _).mono ?_
    rintro e w0 ⟨rfl, g0⟩
    go_wp2_with fail
    go_ret
    exact ⟨rfl, g0⟩

end Go.Proofs.Ytkggjokpbopjdaa.law05
