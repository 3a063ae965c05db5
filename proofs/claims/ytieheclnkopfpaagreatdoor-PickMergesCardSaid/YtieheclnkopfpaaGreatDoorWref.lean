/-
  The document's fields as bytes: Text, Put, one, all, Get, First.
-/
import Derived.Test.YtieheclnkopfpaaGreatDoorWfew
import Derived.Test.YtieheclnkopfpaaGreatDoorBundT
import Derived.Test.YtieheclnkopfpaaGreatDoorBundA
import Derived.Handy
import Derived.Deep.LoopGhost
namespace Go.Proofs.YtieheclnkopfpaaGreatDoor.wm
open Go.RowKit Go.Proofs.YtieheclnkopfpaaGreatDoor.tr Go.Proofs.YtieheclnkopfpaaGreatDoor.vi
set_option linter.unusedVariables false
set_option linter.unusedSimpArgs false

theorem encB_txt (n : Nat) : encB n = txt (enc n) := rfl
theorem txt_append (a b : List UInt8) : txt a ++ txt b = txt (a ++ b) := by
  apply ByteArray.ext
  apply Array.ext'
  simp [txt]
theorem txt_data (s : ByteArray) : s = txt s.data.toList := (txt_of s).symm

/-- A field of those that may be. -/
theorem good_at : ∀ {ts : List Tree} {d p i : Nat} {t : Tree}, checkL d p ts = 0 → fitsL ts → ts[i]? = some t → t.tag ≤ 4294967296 ∧ (0 ≤ t.typ ∧ t.typ ≤ 2) ∧ t.num < 18446744073709551616 ∧ fitsL t.list ∧ checkL (d + 1) 0 t.list = 0
  | [], d, p, i, t, _, _, h => by simp at h
  | x :: r, d, p, 0, t, hc, hf, h => by
    simp at h; subst h
    obtain ⟨h0, h1, h2, h3, h4, h5, h6⟩ := check_ok hc
    obtain ⟨f1, f2, f3⟩ := (fitsL_cons x r).1 hf
    exact ⟨h1, by unfold bad at h3; omega, f1, f2, h5⟩
  | x :: r, d, p, i + 1, t, hc, hf, h => by
    obtain ⟨h0, h1, h2, h3, h4, h5, h6⟩ := check_ok hc
    obtain ⟨f1, f2, f3⟩ := (fitsL_cons x r).1 hf
    exact good_at (i := i) h6 f3 (by simpa using h)

end Go.Proofs.YtieheclnkopfpaaGreatDoor.wm
