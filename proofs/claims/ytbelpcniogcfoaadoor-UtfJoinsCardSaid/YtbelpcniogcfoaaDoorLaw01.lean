/-
  The statements of layer 1: awake, a nil cursor.
-/
import Derived.Test.YtbelpcniogcfoaaDoorCursor
import Derived.Handy
namespace Go.Proofs.YtbelpcniogcfoaaDoor.law01
open Go.RowKit Go.Proofs.YtbelpcniogcfoaaDoor.cur
set_option linter.unusedVariables false

def ab : ByteArray := ⟨#[97, 98]⟩

/-- The chapter's example. -/
theorem awake_any (w : World) :
    Calls Tryd.prog 92 #[] w fun e w' => e = .returned (.bool true) ∧ w.grownBy w' none := by
  go_enter Tryd.func92, Tryd.ntmps92
  go_wp2_with fail
  refine (over_any ab w).mono ?_
  rintro e w0 ⟨rfl, hw0⟩
  have hN := hw0 ▸ Cur.new ab (by decide) w
  have g0 : w.grownBy w0 none := hw0 ▸ World.grownBy_alloc _ _ _
  have hb : w.heap.size < w0.heap.size := hN.lt
  clear hw0
  go_wp2_with fail
  refine (byte_ok hN (by decide)).mono ?_
  rintro e w1 ⟨rfl, h1, g1⟩
  clear hN
  go_wp2_with fail
  refine (byte_ok h1 (by decide)).mono ?_
  rintro e w2 ⟨rfl, h2, g2⟩
  clear h1
  go_wp2_with fail
  refine (byte_no h2 (by decide)).mono ?_
  rintro e w3 ⟨rfl, d, rfl⟩
  clear h2
  go_wp2_with fail
  go_ret
  exact ⟨rfl, only_drewN (only_new (only_new g0 g1 (Nat.le_refl _)) g2 (Nat.le_refl _)) _⟩

end Go.Proofs.YtbelpcniogcfoaaDoor.law01
