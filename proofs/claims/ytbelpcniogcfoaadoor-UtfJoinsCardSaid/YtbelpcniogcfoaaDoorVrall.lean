/-
  The document's All; slices.Equal of two rows that hold the same.
-/
import Derived.Test.YtbelpcniogcfoaaDoorVall
import Derived.Deep.AppendLies
namespace Go.Proofs.YtbelpcniogcfoaaDoor.vi
open Go.RowKit Go.Proofs.YtbelpcniogcfoaaDoor.cur
set_option linter.unusedVariables false

def strLen : Value → Nat | .string s => s.size | _ => 0

theorem extract_drop (s : ByteArray) (k m : Nat) (hk : k ≤ s.size) (h : m ≤ s.size - k) : (s.extract k s.size).extract m (s.extract k s.size).size = s.extract (k + m) s.size := by
  have e : (s.extract k s.size).size = s.size - k := by simp
  rw [e, extract_extract _ _ _ _ _ (by omega)]
  congr 1
  omega

theorem row_shape {w : World} {base : Nat} {e : TypeId} {size : Nat} {v : Value} {n : Nat} {xs : List Value} (h : w.ownsRow base e size v n xs) : ∃ a cap, v = .slice a n cap := by
  rcases h.2 with ⟨rfl, rfl⟩ | ⟨g, cap, cur, rfl, _⟩
  · exact ⟨none, 0, rfl⟩
  · exact ⟨_, _, rfl⟩

end Go.Proofs.YtbelpcniogcfoaaDoor.vi
