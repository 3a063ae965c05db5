/-
  The library's unicode/utf8, where the program leans on it: the two tables in memory, ValidString. (Tables: unicode/utf8.first, acceptRanges. YtbelpcniogcfoaaDoorUlay: by ulay.sh.)
-/
import Derived.Test.YtbelpcniogcfoaaDoorUdec
import Derived.Test.YtbelpcniogcfoaaDoorRows
import Derived.Test.YtbelpcniogcfoaaDoorUlay
import Derived.Lib.LaidU8T
import Derived.MakeChecks
namespace Go.Proofs.YtbelpcniogcfoaaDoor.tb
open Go.Lib Go.Shelf
set_option linter.unusedVariables false

/-- The two tables lie in memory. -/
def Tab (w : World) : Prop := Utf8Tabs (Tryd.laysValid_ren.g 3) (Tryd.laysValid_ren.g 4) w

theorem kept {w w' : World} (h : Tab w) (g : w.grownBy w' none) : Tab w' := Utf8Tabs_below h (below_of_none g)

theorem valid (s : ByteArray) (w : World) (hs : s.size ≤ 9223372036854775807) (hT : Tab w) :
    Calls Tryd.prog 37 #[.string s] w fun e w' => e = .returned (.bool (um.goodR s.data.toList)) ∧ w.grownBy w' none := by
  have c : Calls Tryd.prog 37 #[.string s] w _ := Any.utf8_ValidString Tryd.laysValid s w hs hT
  rw [um.valid_good] at c
  exact c.mono fun e w' ⟨he, hb⟩ => ⟨he, only_of_below hb none⟩

theorem first_same : Go.Pinned.utf8First = firstData := by kernel_rfl
theorem of_laid {w : World} {l : List (String × DataW Unit)} (h : laidMetH Tryd.prog l w)
    (h0 : (l.all fun x => x.2.handleName?.isNone) = true := by kernel_rfl)
    (h1 : ("unicode/utf8.first", Go.Pinned.utf8First) ∈ l := by first | exact .head _ | exact .tail _ (.head _) | exact .tail _ (.tail _ (.head _)))
    (h2 : ("unicode/utf8.acceptRanges", acceptData) ∈ l := by first | exact .head _ | exact .tail _ (.head _) | exact .tail _ (.tail _ (.head _))) : Tab w := by
  rw [MakeChecks.laidMetH_plain _ _ _ h0] at h
  have r1 := Lib.laidMet.reads h h1
  have r2 := Lib.laidMet.reads h h2
  rw [first_same] at r1
  exact utf8Tabs_of_readsT (U8Types.of196 Tryd.laysValid) ⟨by kernel_rfl, by kernel_rfl, by kernel_rfl, by kernel_rfl, by kernel_rfl, by kernel_rfl, by kernel_rfl⟩ r1 r2

end Go.Proofs.YtbelpcniogcfoaaDoor.tb
