/-
  Next, All, and the document's All.
-/
import Derived.Test.YtbelpcniogcfoaaDoorVput
import Derived.Test.YtbelpcniogcfoaaDoorVrget
import Derived.Deep.Onto
namespace Go.Proofs.YtbelpcniogcfoaaDoor.vi
open Go.RowKit Go.Proofs.YtbelpcniogcfoaaDoor.cur
set_option linter.unusedVariables false

theorem bytes_drop (s : ByteArray) (k : Nat) : (s.extract k s.size).data.toList = s.data.toList.drop k := by
  simp
  exact List.take_of_length_le (by simp)

theorem Tryd.info28 : (Tryd.prog.info? 45).map (fun i => (i.zero, i.size, i.bytes)) = some (some (.int .u64 0), 1, 8) := by kernel_rfl

def u64s (l : List Nat) : List Value := l.map fun (n : Nat) => .int .u64 (n : Int)

/-- What All answers: its slice is the call's own. -/
def AllPost (w : World) (q : List Nat × Nat) (e : Ending) (w' : World) : Prop :=
  ∃ v, e = .returned (.tuple #[v, .int .i64 (q.2 : Int)]) ∧ w.grownBy w' none ∧ w'.ownsRow w.heap.size 45 1 v q.1.length (u64s q.1)

end Go.Proofs.YtbelpcniogcfoaaDoor.vi
