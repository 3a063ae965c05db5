/-
  Rows of texts: what holds them, and slices.Equal of two that hold the same.
-/
import Derived.Test.YtbelpcniogcfoaaDoorFmath
import Derived.Test.YtbelpcniogcfoaaDoorVrall
import Derived.Test.YtbelpcniogcfoaaDoorLaw02
import Derived.Deep.AppendLies
namespace Go.Proofs.YtbelpcniogcfoaaDoor.fm
open Go.RowKit Go.Proofs.YtbelpcniogcfoaaDoor.vi
set_option linter.unusedVariables false
set_option linter.unusedSimpArgs false

/-- Bytes as a text. -/
def str (l : List UInt8) : ByteArray := ⟨l.toArray⟩
theorem str_list (l : List UInt8) : (str l).data.toList = l := rfl
theorem str_size (l : List UInt8) : (str l).size = l.length := size_of_list l
theorem str_of (s : ByteArray) : str s.data.toList = s := by cases s; simp [str]

def texts (l : List (List UInt8)) : List Value := l.map fun x => .string (str x)

theorem Tryd.infoStr : (Tryd.prog.info? 9).map (fun i => (i.zero, i.size, i.bytes)) = some (some (.string ⟨#[]⟩), 1, 16) := by kernel_rfl

/-- A list of texts that is the call's own. -/
def Own (base : Nat) (w : World) (v : Value) (l : List (List UInt8)) : Prop := w.ownsRow base 9 1 v l.length (texts l)

theorem Own.nil (base : Nat) (w : World) : Own base w (.slice none 0 0) [] := World.ownsRow_nil _ _ _ _
theorem Own.kept {base : Nat} {w w' : World} {v : Value} {l : List (List UInt8)} (h : Own base w v l) (g : w.grownBy w' none) : Own base w' v l := law02.row_kept h g
theorem Own.mono {base base' : Nat} {w : World} {v : Value} {l : List (List UInt8)} (h : Own base w v l) (hb : base' ≤ base) : Own base' w v l := World.ownsRow.mono h hb

theorem own_cell {base : Nat} {w : World} {g c : Nat} {l : List (List UInt8)} (h : w.ownsRow base 9 1 (.slice (some ⟨g, 0, none⟩) l.length c) l.length (texts l)) (j : Nat) (hj : j < l.length) :
    w.cell? ⟨g, 0 + j, none⟩ = some (.string ((l.map str).getD j ByteArray.empty)) := by
  rw [Nat.zero_add, h.cellAt j (by omega)]
  simp [texts, List.getD_eq_getElem?_getD, hj]

end Go.Proofs.YtbelpcniogcfoaaDoor.fm
