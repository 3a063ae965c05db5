/-
  The developers' reader of fields: next, all; Get, First.
-/
import Derived.Test.YtieheclnkopfpaaGreatDoorWlist
import Derived.Deep.RegionHeld3
import Derived.Sort.AtCall
namespace Go.Proofs.YtieheclnkopfpaaGreatDoor.ww
open Go.RowKit Go.Proofs.YtieheclnkopfpaaGreatDoor.tr Go.Proofs.YtieheclnkopfpaaGreatDoor.wm Go.Proofs.YtieheclnkopfpaaGreatDoor.vi Go.Proofs.YtieheclnkopfpaaGreatDoor.cur
set_option linter.unusedVariables false
set_option linter.unusedSimpArgs false

theorem results_cell2 {P : Program} {fn : Func} {p u : Tmp} {ty : TypeId} (h : fn.results = #[.cell p ty, .tmp u]) (tmps : Array Value) (w : World) (g : Nat) (t : TypeId) (cs : Array Value) (fr : Nat × Nat) (d : TypeDesc)
    (hp : tmps.getD p undef = .pointer (some ⟨g, 0, none⟩)) (hg : w.heap[g]? = some (.cells cs t fr))
    (hu : P.underlying ty = some d) (hd : (match d with | .struct _ | .array _ _ => true | _ => false) = true) (hi : (P.info? ty).map (·.size) = some cs.size) :
    (results fn tmps).run P w = .ok (.tuple #[.agg cs, tmps.getD u undef]) w := by
  have hp' : tmps[p]?.getD undef = .pointer (some ⟨g, 0, none⟩) := by simpa using hp
  simp [results, h, hp', asAddr, run_loadVar_row w g t ty cs fr d hg hu hd hi]

theorem five_at {w : World} {g : Nat} {z0 z1 z2 z3 z4 : Value} {ty : TypeId} (h : w.heap[g]? = some (.cells #[z0, z1, z2, z3, z4] ty (0, 0))) :
    (w.cell? ⟨g, 0, none⟩ = some z0 ∧ w.cell? ⟨g, 1, none⟩ = some z1 ∧ w.cell? ⟨g, 2, none⟩ = some z2 ∧ w.cell? ⟨g, 3, none⟩ = some z3 ∧ w.cell? ⟨g, 4, none⟩ = some z4) ∧
    w.frozen? ⟨g, 0, none⟩ = false ∧ w.frozen? ⟨g, 1, none⟩ = false ∧ w.frozen? ⟨g, 2, none⟩ = false ∧ w.frozen? ⟨g, 3, none⟩ = false ∧ w.frozen? ⟨g, 4, none⟩ = false := by
  simp [World.cell?, World.frozen?, h]

def Z5 : Obj := .cells #[.int .u64 0, .int .i64 0, .int .u64 0, .string ⟨#[]⟩, .slice none 0 0] 38 (0, 0)

/-- The result's block, set to nothing: what comes back beside an error. -/
theorem five_sets {S : Nat → Prop} {w w1 : World} {g : Nat} (hg : Chg S w w1) (hge : w.heap.size ≤ g) (a b c d e : Value) : Chg S w (((((w1.setCell ⟨g, 0, none⟩ a).setCell ⟨g, 1, none⟩ b).setCell ⟨g, 2, none⟩ c).setCell ⟨g, 3, none⟩ d).setCell ⟨g, 4, none⟩ e) :=
  ((((hg.setCell (p := ⟨g, 0, none⟩) (.inr hge) a).setCell (p := ⟨g, 1, none⟩) (.inr hge) b).setCell (p := ⟨g, 2, none⟩) (.inr hge) c).setCell (p := ⟨g, 3, none⟩) (.inr hge) d).setCell (p := ⟨g, 4, none⟩) (.inr hge) e
theorem five_sets' (w1 : World) (g : Nat) (a b c d e : Value) : Chg (fun k => k = g) w1 (((((w1.setCell ⟨g, 0, none⟩ a).setCell ⟨g, 1, none⟩ b).setCell ⟨g, 2, none⟩ c).setCell ⟨g, 3, none⟩ d).setCell ⟨g, 4, none⟩ e) :=
  (((((Chg.refl (fun k => k = g) w1).setCell (p := ⟨g, 0, none⟩) (.inl rfl) a).setCell (p := ⟨g, 1, none⟩) (.inl rfl) b).setCell (p := ⟨g, 2, none⟩) (.inl rfl) c).setCell (p := ⟨g, 3, none⟩) (.inl rfl) d).setCell (p := ⟨g, 4, none⟩) (.inl rfl) e

theorem slot_y {w : World} {f a y n : Nat} {x : ByteArray} {lv : Value} {z : Int} (h : Slot w f a y n x lv) (hz : (y : Int) = z) : w.cell? ⟨f, 1, none⟩ = some (.int .i64 z) := by
  unfold Slot at h
  simp [World.cell?, h, hz]

end Go.Proofs.YtieheclnkopfpaaGreatDoor.ww
